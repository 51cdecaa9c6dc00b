package nand

import (
	"math"
	"slices"
	"strings"
	"testing"

	"oblivion/api"
)

// full is s with bytes 0 behind it, up to a page.
func full(s string) string {
	return s + strings.Repeat("\x00", 256-len(s))
}

// torn is a page that was to have s, and has but the first keep bytes of that.
func torn(s string, keep int, junk byte) string {
	return full(s)[:keep] + strings.Repeat(string([]byte{junk}), 256-keep)
}

// picker tells numbers below most, another row of them for each seed.
func picker(seed uint64) func(most int) int {
	return func(most int) int {
		seed = seed*6364136223846793005 + 1442695040888963407
		return int(seed>>33) % most
	}
}

// noPlaces are numbers of segments, or of pages, that a thing with n of them has not.
func noPlaces(n int) []int {
	return []int{-1, -2, math.MinInt, math.MinInt + 1, math.MinInt32, n, n + 1, n + 255, math.MaxInt32, 1 << 32, math.MaxInt - 1, math.MaxInt}
}

func newChip(t *testing.T, p *Power, segs, pages, rated int, bad ...int) *Chip {
	t.Helper()
	c := New(p, segs, pages, rated, bad)
	if c == nil {
		t.Fatalf("no chip of %d segments of %d pages, rated %d", segs, pages, rated)
	}
	return c
}

func wantErr(t *testing.T, got, want api.Errno) {
	t.Helper()
	if got != want {
		t.Errorf("error %d, want %d", got, want)
	}
}

func wantAct(t *testing.T, p *Power, may, whole bool) {
	t.Helper()
	if gotMay, gotWhole := p.Act(); gotMay != may || gotWhole != whole {
		t.Errorf("Act is %v, %v, want %v, %v", gotMay, gotWhole, may, whole)
	}
}

func wantKept(t *testing.T, p *Power, keep int, junk byte) {
	t.Helper()
	if gotKeep, gotJunk := p.Kept(); gotKeep != keep || gotJunk != junk {
		t.Errorf("Kept is %d, %d, want %d, %d", gotKeep, gotJunk, keep, junk)
	}
}

func wantUp(t *testing.T, p *Power, want bool) {
	t.Helper()
	if p.Up() != want {
		t.Errorf("Up is %v", p.Up())
	}
}

func wantPage(t *testing.T, c *Chip, seg, page int, want string) {
	t.Helper()
	if s, is, e := c.Read(seg, page); s != want || is != (want != "") || e != api.OK {
		t.Errorf("page %d of %d has %q, %v, %d, want %q", page, seg, s, is, e, want)
	}
}

func wantNoRead(t *testing.T, c *Chip, seg, page int, want api.Errno) {
	t.Helper()
	if s, is, e := c.Read(seg, page); s != "" || is || e != want {
		t.Errorf("page %d of %d has %q, %v, %d, want error %d", page, seg, s, is, e, want)
	}
}

func wantCounts(t *testing.T, c *Chip, programs, erases int) {
	t.Helper()
	if p, e := c.Counts(); p != programs || e != erases {
		t.Errorf("Counts is %d, %d, want %d, %d", p, e, programs, erases)
	}
}

func wantHistory(t *testing.T, c *Chip, want ...string) {
	t.Helper()
	if got := c.History(); !slices.Equal(got, want) {
		t.Errorf("History is %q, want %q", got, want)
	}
}

// told is all that a chip tells of itself, while its power is up.
func told(c *Chip) []string {
	programs, erases := c.Counts()
	l := []string{strings.Repeat("p", programs), strings.Repeat("e", erases)}
	for seg := range c.Segs() {
		l = append(l, strings.Repeat("w", c.Wear(seg)))
		for page := range c.Pages() {
			s, is, e := c.Read(seg, page)
			l = append(l, s, strings.Repeat("is", map[bool]int{true: 1}[is]), strings.Repeat("!", int(e)))
		}
	}
	return append(l, c.History()...)
}

func TestErrors(t *testing.T) {
	if api.ErrArg != 1 || api.ErrOff != 4 || api.ErrUsed != 100 || api.ErrWorn != 101 || api.Page != 256 || api.MaxSegs != 64 || api.MaxPages != 16 {
		t.Error("other numbers")
	}
}

// P10.1

func TestNewPower(t *testing.T) {
	p := NewPower()
	wantUp(t, p, true)
	wantKept(t, p, 0, 0)
	for range 300 {
		wantAct(t, p, true, true)
	}
	wantUp(t, p, true)
	wantKept(t, p, 0, 0)
}

func TestFuse(t *testing.T) {
	for _, n := range []int{1, 2, 3, 150} {
		p := NewPower()
		p.Fuse(n, 5, 6)
		for range n - 1 {
			wantAct(t, p, true, true)
			wantUp(t, p, true)
		}
		wantAct(t, p, true, false)
		wantUp(t, p, false)
		for range 3 {
			wantAct(t, p, false, false)
		}
		wantKept(t, p, 5, 6)
	}
}

func TestFuseCountsFromNowOn(t *testing.T) {
	p := NewPower()
	for range 7 {
		wantAct(t, p, true, true)
	}
	p.Fuse(2, 0, 0)
	wantAct(t, p, true, true)
	wantAct(t, p, true, false)
}

func TestNoFuse(t *testing.T) {
	for _, n := range []int{0, -1, -2, -150, math.MinInt32, math.MinInt + 1, math.MinInt} {
		p := NewPower()
		p.Fuse(n, 1, 1)
		for range 200 {
			wantAct(t, p, true, true)
		}
	}
}

func TestFarFuse(t *testing.T) {
	for _, n := range []int{201, 1 << 31, 1<<32 + 1, math.MaxInt - 1, math.MaxInt} {
		p := NewPower()
		for range 10 {
			p.Act()
		}
		p.Fuse(n, 1, 1)
		for range 200 {
			wantAct(t, p, true, true)
		}
	}
}

func TestLaterFuseTakesThePlace(t *testing.T) {
	for _, x := range []struct{ first, acts, second int }{{5, 0, 2}, {2, 0, 5}, {2, 1, 1}, {2, 1, 3}, {3, 2, 4}, {1, 0, 1}, {9, 8, 9}} {
		p := NewPower()
		p.Fuse(x.first, 1, 2)
		for range x.acts {
			wantAct(t, p, true, true)
		}
		p.Fuse(x.second, 3, 4)
		wantKept(t, p, 3, 4)
		for range x.second - 1 {
			wantAct(t, p, true, true)
		}
		wantAct(t, p, true, false)
		wantKept(t, p, 3, 4)
	}
	p := NewPower()
	p.Fuse(2, 1, 2)
	p.Fuse(0, 3, 4)
	for range 5 {
		wantAct(t, p, true, true)
	}
}

func TestKept(t *testing.T) {
	p := NewPower()
	for _, x := range []struct {
		n, keep int
		junk    byte
		kept    int
	}{{1, 0, 0, 0}, {1, 7, 255, 7}, {3, -1, 9, 0}, {3, math.MinInt, 0, 0}, {3, math.MaxInt, 1, math.MaxInt}, {3, 257, 128, 257}, {0, 4, 5, 4}, {-1, 3, 3, 3}} {
		p.Fuse(x.n, x.keep, x.junk)
		wantKept(t, p, x.kept, x.junk)
		p.Cut()
		wantKept(t, p, x.kept, x.junk)
		p.On()
		wantKept(t, p, x.kept, x.junk)
		p.Act()
		wantKept(t, p, x.kept, x.junk)
	}
}

func TestCutAndOn(t *testing.T) {
	p := NewPower()
	for range 3 {
		p.Cut()
		wantUp(t, p, false)
		wantAct(t, p, false, false)
		p.Cut()
		wantUp(t, p, false)
		p.On()
		wantUp(t, p, true)
		wantAct(t, p, true, true)
		p.On()
		wantUp(t, p, true)
	}
	wantKept(t, p, 0, 0)
}

func TestOnTakesTheFuse(t *testing.T) {
	for name, ahead := range map[string]func(*Power){
		"it was up":      func(p *Power) { p.Fuse(1, 1, 1) },
		"it was cut":     func(p *Power) { p.Fuse(1, 1, 1); p.Cut() },
		"when it is cut": func(p *Power) { p.Cut(); p.Fuse(1, 1, 1) },
		"it went":        func(p *Power) { p.Fuse(1, 1, 1); p.Act() },
		"after it went":  func(p *Power) { p.Fuse(1, 1, 1); p.Act(); p.Fuse(2, 1, 1) },
		"asked when cut": func(p *Power) { p.Fuse(2, 1, 1); p.Cut(); p.Act() },
	} {
		p := NewPower()
		ahead(p)
		p.On()
		for range 5 {
			if may, whole := p.Act(); !may || !whole {
				t.Errorf("%s: there is a fuse", name)
			}
		}
	}
}

func TestFuseWhileItIsOff(t *testing.T) {
	p := NewPower()
	p.Cut()
	p.Fuse(3, 1, 1)
	wantUp(t, p, false)
	wantAct(t, p, false, false)
}

func TestPowersAreTheirOwn(t *testing.T) {
	p, q := NewPower(), NewPower()
	p.Fuse(1, 2, 3)
	wantKept(t, q, 0, 0)
	wantAct(t, q, true, true)
	wantAct(t, p, true, false)
	wantUp(t, q, true)
}

// P10.2

func TestNewOfAllSizes(t *testing.T) {
	p := NewPower()
	for segs := -1; segs <= 66; segs++ {
		for pages := -1; pages <= 18; pages++ {
			c := New(p, segs, pages, 1, nil)
			if may := segs >= 1 && segs <= 64 && pages >= 1 && pages <= 16; may != (c != nil) {
				t.Fatalf("%d of %d: %v", segs, pages, c)
			}
			if c != nil && (c.Segs() != segs || c.Pages() != pages) {
				t.Errorf("%d of %d: %d of %d", segs, pages, c.Segs(), c.Pages())
			}
		}
	}
}

func TestNewOfWhatMayNotBe(t *testing.T) {
	p := NewPower()
	for _, far := range []int{math.MinInt, math.MinInt32, -1, math.MaxInt32, 1<<32 + 1, math.MaxInt} {
		if New(p, far, 4, 4, nil) != nil || New(p, 4, far, 4, nil) != nil {
			t.Errorf("a chip with %d", far)
		}
	}
	for _, rated := range []int{-1, math.MinInt32, math.MinInt} {
		if New(p, 4, 4, rated, nil) != nil {
			t.Errorf("a chip rated %d", rated)
		}
	}
	if New(nil, 4, 4, 4, nil) != nil || New(nil, 0, 0, -1, []int{0}) != nil {
		t.Error("a chip without power")
	}
	wantUp(t, p, true)
	wantKept(t, p, 0, 0)
}

func TestNewHasNothing(t *testing.T) {
	for _, size := range [][2]int{{1, 1}, {64, 16}, {3, 4}} {
		c := newChip(t, NewPower(), size[0], size[1], math.MaxInt, 0)
		for seg := range size[0] {
			for page := range size[1] {
				wantPage(t, c, seg, page, "")
			}
			if c.Wear(seg) != 0 {
				t.Errorf("segment %d was erased", seg)
			}
		}
		wantHistory(t, c)
		wantCounts(t, c, 0, 0)
	}
}

func TestNewWhileThePowerIsOff(t *testing.T) {
	p := NewPower()
	p.Cut()
	c := newChip(t, p, 2, 3, 1)
	if c.Segs() != 2 || c.Pages() != 3 {
		t.Error(c.Segs(), c.Pages())
	}
	wantUp(t, p, false)
	wantNoRead(t, c, 0, 0, api.ErrOff)
	p.On()
	wantPage(t, c, 0, 0, "")
}

func TestNewIsNoAct(t *testing.T) {
	p := NewPower()
	p.Fuse(1, 0, 0)
	newChip(t, p, 2, 3, 1)
	wantAct(t, p, true, false)
}

func TestBad(t *testing.T) {
	for name, bad := range map[string][]int{
		"nil":          nil,
		"none":         {},
		"one":          {2},
		"twice":        {2, 2, 0, 2},
		"all":          {3, 2, 1, 0},
		"none of them": noPlaces(4),
		"one of them":  append(noPlaces(4), 1),
		"many":         slices.Repeat([]int{3, 99, -4}, 100),
	} {
		kept := slices.Clone(bad)
		c := newChip(t, NewPower(), 4, 2, 5, bad...)
		for seg := range 4 {
			wantErr(t, c.Program(seg, 1, "x"), api.OK)
			want := api.OK
			if slices.Contains(bad, seg) {
				want = api.ErrWorn
			}
			if e := c.Erase(seg); e != want {
				t.Errorf("%s: Erase(%d) is %d", name, seg, e)
			}
		}
		if !slices.Equal(bad, kept) {
			t.Errorf("%s: what was handed in is now %d", name, bad)
		}
	}
}

func TestNewKeepsNoList(t *testing.T) {
	bad := []int{1, 9}
	c := New(NewPower(), 3, 2, 5, bad)
	bad[0], bad[1] = 0, 2
	wantErr(t, c.Erase(0), api.OK)
	wantErr(t, c.Erase(1), api.ErrWorn)
	wantErr(t, c.Erase(2), api.OK)
}

// P10.3

func TestProgramAndRead(t *testing.T) {
	all := make([]byte, 256)
	for i := range all {
		all[i] = byte(i)
	}
	for _, s := range []string{"", "a", "ab", "\x00", "\x00\x00a", "a\x00", "\xff\xfe", "grün", string(all), string(all[:255]), string(all[1:]), strings.Repeat("\x00", 256), strings.Repeat("\xff", 256)} {
		c := newChip(t, NewPower(), 2, 3, 1)
		wantErr(t, c.Program(1, 2, s), api.OK)
		for range 3 {
			wantPage(t, c, 1, 2, full(s))
		}
		for seg := range 2 {
			for page := range 3 {
				if seg != 1 || page != 2 {
					wantPage(t, c, seg, page, "")
				}
			}
		}
		wantHistory(t, c, full(s))
		wantCounts(t, c, 1, 0)
	}
}

func TestProgramOfAllPages(t *testing.T) {
	c := newChip(t, NewPower(), 64, 16, 1)
	text := func(seg, page int) string { return string([]byte{byte(seg), byte(page), 1}) }
	for page := range 16 {
		for seg := range 64 {
			wantErr(t, c.Program(63-seg, 15-page, text(63-seg, 15-page)), api.OK)
		}
	}
	for seg := range 64 {
		for page := range 16 {
			wantPage(t, c, seg, page, full(text(seg, page)))
			wantErr(t, c.Program(seg, page, "x"), api.ErrUsed)
		}
	}
	wantCounts(t, c, 1024, 0)
}

func TestProgramTwice(t *testing.T) {
	for _, first := range []string{"", "a", strings.Repeat("x", 256)} {
		for _, second := range []string{"", "a", first, strings.Repeat("y", 256)} {
			c := newChip(t, NewPower(), 1, 2, 1)
			wantErr(t, c.Program(0, 0, first), api.OK)
			before := told(c)
			wantErr(t, c.Program(0, 0, second), api.ErrUsed)
			if !slices.Equal(told(c), before) {
				t.Errorf("%q behind %q changed something", second, first)
			}
		}
	}
}

func TestNoSuchPage(t *testing.T) {
	c := newChip(t, NewPower(), 3, 2, 1)
	wantErr(t, c.Program(2, 1, "a"), api.OK)
	before := told(c)
	for _, x := range noPlaces(3) {
		wantErr(t, c.Program(x, 0, "b"), api.ErrArg)
		wantErr(t, c.Program(x, x, "b"), api.ErrArg)
		wantNoRead(t, c, x, 0, api.ErrArg)
		wantNoRead(t, c, x, x, api.ErrArg)
	}
	for _, x := range noPlaces(2) {
		wantErr(t, c.Program(2, x, "b"), api.ErrArg)
		wantNoRead(t, c, 2, x, api.ErrArg)
	}
	if !slices.Equal(told(c), before) {
		t.Error("something changed")
	}
}

func TestProgramOfTooMuch(t *testing.T) {
	c := newChip(t, NewPower(), 1, 2, 1)
	wantErr(t, c.Program(0, 1, "a"), api.OK)
	before := told(c)
	for _, n := range []int{257, 258, 512, 513, 3000, 65536} {
		wantErr(t, c.Program(0, 0, strings.Repeat("x", n)), api.ErrArg)
		wantErr(t, c.Program(0, 1, strings.Repeat("x", n)), api.ErrArg) // named ahead of ErrUsed
	}
	if !slices.Equal(told(c), before) {
		t.Error("something changed")
	}
}

func TestProgramInPart(t *testing.T) {
	for _, s := range []string{"", "abc", "abcdefghij", strings.Repeat("x", 255), strings.Repeat("x", 256)} {
		for _, keep := range []int{0, 1, 2, 3, 4, 9, 10, 11, 254, 255, 256, 257, 1000, math.MaxInt, -1, math.MinInt} {
			for _, junk := range []byte{0, 'j', 255} {
				p := NewPower()
				c := newChip(t, p, 2, 2, 1)
				p.Fuse(1, keep, junk)
				wantErr(t, c.Program(1, 0, s), api.ErrOff)
				wantUp(t, p, false)
				want := torn(s, min(max(keep, 0), 256), junk)
				wantHistory(t, c, want)
				wantCounts(t, c, 1, 0)
				p.On()
				wantPage(t, c, 1, 0, want)
				wantPage(t, c, 1, 1, "")
				wantErr(t, c.Program(1, 0, s), api.ErrUsed)
			}
		}
	}
}

// The fuse's keep and junk are of no weight for acts that are done whole.
func TestWholeActsKeepAll(t *testing.T) {
	p := NewPower()
	c := newChip(t, p, 1, 4, 9)
	p.Fuse(4, 1, 'j')
	wantErr(t, c.Program(0, 0, "abc"), api.OK)
	wantErr(t, c.Erase(0), api.OK)
	wantPage(t, c, 0, 0, "")
	wantErr(t, c.Program(0, 3, "def"), api.OK)
	wantPage(t, c, 0, 3, full("def"))
	wantErr(t, c.Program(0, 0, "ghi"), api.ErrOff)
	p.On()
	wantPage(t, c, 0, 0, torn("ghi", 1, 'j'))
	wantPage(t, c, 0, 3, full("def"))
	wantErr(t, c.Program(0, 1, "jkl"), api.OK)
	wantPage(t, c, 0, 1, full("jkl"))
}

func TestOffIsNamedFirst(t *testing.T) {
	p := NewPower()
	c := newChip(t, p, 2, 2, 0, 1)
	wantErr(t, c.Program(0, 0, "a"), api.OK)
	before := told(c)
	p.Cut()
	wantErr(t, c.Program(0, 1, "b"), api.ErrOff)
	wantErr(t, c.Program(0, 0, "b"), api.ErrOff)
	wantErr(t, c.Program(0, 1, strings.Repeat("x", 257)), api.ErrOff)
	wantNoRead(t, c, 0, 0, api.ErrOff)
	wantNoRead(t, c, 0, 1, api.ErrOff)
	for _, seg := range noPlaces(2) {
		wantErr(t, c.Program(seg, 0, "b"), api.ErrOff)
		wantErr(t, c.Erase(seg), api.ErrOff)
		wantNoRead(t, c, seg, 0, api.ErrOff)
	}
	wantErr(t, c.Erase(0), api.ErrOff)
	wantErr(t, c.Erase(1), api.ErrOff)
	p.On()
	if !slices.Equal(told(c), before) {
		t.Error("something changed")
	}
}

// What is no act does not bring the fuse nearer.
func TestErrorsAndReadsAreNoActs(t *testing.T) {
	p := NewPower()
	c := newChip(t, p, 3, 2, 1, 2)
	wantErr(t, c.Program(0, 0, "a"), api.OK)
	wantErr(t, c.Erase(1), api.OK)
	p.Fuse(2, 3, 'j')
	for range 5 {
		wantErr(t, c.Program(0, 0, "b"), api.ErrUsed)
		wantErr(t, c.Program(0, 2, "b"), api.ErrArg)
		wantErr(t, c.Program(0, 1, strings.Repeat("x", 257)), api.ErrArg)
		wantErr(t, c.Erase(1), api.ErrWorn)
		wantErr(t, c.Erase(2), api.ErrWorn)
		wantErr(t, c.Erase(3), api.ErrArg)
		wantPage(t, c, 0, 0, full("a"))
		wantPage(t, c, 0, 1, "")
		wantNoRead(t, c, 9, 9, api.ErrArg)
		told(c)
	}
	wantCounts(t, c, 1, 1)
	wantErr(t, c.Program(0, 1, "b"), api.OK)
	wantErr(t, c.Program(1, 1, "cdef"), api.ErrOff)
	wantCounts(t, c, 3, 1)
	wantHistory(t, c, full("a"), full("b"), torn("cdef", 3, 'j'))
}

// P10.4

func TestErase(t *testing.T) {
	c := newChip(t, NewPower(), 3, 4, 9)
	for seg := range 3 {
		for _, page := range []int{0, 2, 3} {
			wantErr(t, c.Program(seg, page, "a"), api.OK)
		}
	}
	wantErr(t, c.Erase(1), api.OK)
	for page := range 4 {
		wantPage(t, c, 1, page, "")
	}
	for _, seg := range []int{0, 2} {
		for _, page := range []int{0, 2, 3} {
			wantPage(t, c, seg, page, full("a"))
		}
		wantPage(t, c, seg, 1, "")
	}
	wantErr(t, c.Program(1, 2, "b"), api.OK)
	wantPage(t, c, 1, 2, full("b"))
	if c.Wear(0) != 0 || c.Wear(1) != 1 || c.Wear(2) != 0 {
		t.Error(c.Wear(0), c.Wear(1), c.Wear(2))
	}
}

func TestEraseOfNothing(t *testing.T) {
	c := newChip(t, NewPower(), 1, 1, 3)
	wantErr(t, c.Erase(0), api.OK)
	wantErr(t, c.Erase(0), api.OK)
	wantPage(t, c, 0, 0, "")
	if c.Wear(0) != 2 {
		t.Error(c.Wear(0))
	}
	wantHistory(t, c)
	wantCounts(t, c, 0, 2)
}

func TestEraseOfNoSegment(t *testing.T) {
	c := newChip(t, NewPower(), 4, 1, 0)
	before := told(c)
	for _, seg := range noPlaces(4) {
		wantErr(t, c.Erase(seg), api.ErrArg)
	}
	if !slices.Equal(told(c), before) {
		t.Error("something changed")
	}
}

func TestWorn(t *testing.T) {
	for _, rated := range []int{0, 1, 2, 7, 100} {
		c := newChip(t, NewPower(), 2, 2, rated)
		for i := range rated {
			wantErr(t, c.Program(1, 0, "a"), api.OK)
			wantErr(t, c.Erase(1), api.OK)
			if c.Wear(1) != i+1 {
				t.Errorf("Wear is %d behind %d", c.Wear(1), i+1)
			}
		}
		wantErr(t, c.Program(1, 1, "b"), api.OK) // what is worn can still be programmed
		before := told(c)
		for range 3 {
			wantErr(t, c.Erase(1), api.ErrWorn)
		}
		if !slices.Equal(told(c), before) {
			t.Errorf("rated %d: something changed", rated)
		}
		if rated > 0 {
			wantErr(t, c.Erase(0), api.OK)
		}
	}
}

func TestRatedWithoutBound(t *testing.T) {
	c := newChip(t, NewPower(), 1, 1, math.MaxInt)
	for range 1000 {
		wantErr(t, c.Erase(0), api.OK)
	}
	if c.Wear(0) != 1000 {
		t.Error(c.Wear(0))
	}
}

func TestEraseOfBad(t *testing.T) {
	p := NewPower()
	c := newChip(t, p, 2, 2, 9, 1)
	wantErr(t, c.Program(1, 0, "a"), api.OK)
	p.Fuse(1, 0, 0)
	wantErr(t, c.Erase(1), api.ErrWorn)
	wantUp(t, p, true)
	wantPage(t, c, 1, 0, full("a"))
	wantErr(t, c.Program(1, 0, "b"), api.ErrUsed)
	if c.Wear(1) != 0 {
		t.Error(c.Wear(1))
	}
	wantCounts(t, c, 1, 0)
}

func TestEraseInPart(t *testing.T) {
	for _, keep := range []int{math.MinInt, -1, 0, 1, 2, 3, 4, 5, 255, 256, 257, math.MaxInt} {
		p := NewPower()
		c := newChip(t, p, 2, 4, 2)
		for page := range 4 {
			wantErr(t, c.Program(0, page, "a"), api.OK)
			wantErr(t, c.Program(1, page, "b"), api.OK)
		}
		p.Fuse(1, keep, 'j')
		wantErr(t, c.Erase(0), api.ErrOff)
		wantUp(t, p, false)
		if c.Wear(0) != 1 || c.Wear(1) != 0 {
			t.Errorf("keep %d: Wear is %d, %d", keep, c.Wear(0), c.Wear(1))
		}
		wantCounts(t, c, 8, 1)
		p.On()
		for page := range 4 {
			want := full("a")
			if page < keep {
				want = ""
			}
			wantPage(t, c, 0, page, want)
			wantPage(t, c, 1, page, full("b"))
		}
		wantErr(t, c.Erase(0), api.OK)
		wantErr(t, c.Erase(0), api.ErrWorn) // the one in part was one of two
		wantPage(t, c, 0, 3, "")
	}
}

// P10.5

func TestWearOfNoSegment(t *testing.T) {
	c := newChip(t, NewPower(), 2, 2, 9)
	for seg := range 2 {
		wantErr(t, c.Erase(seg), api.OK)
	}
	for _, seg := range noPlaces(2) {
		if got := c.Wear(seg); got != 0 {
			t.Errorf("Wear(%d) is %d", seg, got)
		}
	}
}

func TestHistoryIsInOrder(t *testing.T) {
	p := NewPower()
	c := newChip(t, p, 2, 2, 9)
	wantErr(t, c.Program(1, 1, "a"), api.OK)
	wantErr(t, c.Program(0, 0, "b"), api.OK)
	wantErr(t, c.Program(0, 0, "c"), api.ErrUsed)
	wantErr(t, c.Erase(1), api.OK)
	wantErr(t, c.Program(1, 1, "a"), api.OK)
	p.Fuse(1, 1, 'j')
	wantErr(t, c.Program(1, 0, "de"), api.ErrOff)
	wantErr(t, c.Program(0, 1, "f"), api.ErrOff)
	want := []string{full("a"), full("b"), full("a"), torn("de", 1, 'j')}
	wantHistory(t, c, want...)
	p.On()
	wantErr(t, c.Program(0, 1, ""), api.OK)
	wantHistory(t, c, append(want, full(""))...)
	wantCounts(t, c, 5, 1)
}

// What is told of the past is told whether the power is up, or not.
func TestAskedWhileThePowerIsOff(t *testing.T) {
	p := NewPower()
	c := newChip(t, p, 2, 3, 9)
	wantErr(t, c.Program(1, 1, "a"), api.OK)
	wantErr(t, c.Erase(1), api.OK)
	p.Cut()
	wantHistory(t, c, full("a"))
	wantCounts(t, c, 1, 1)
	if c.Wear(1) != 1 || c.Wear(0) != 0 || c.Segs() != 2 || c.Pages() != 3 {
		t.Error("other numbers")
	}
}

func TestHistoryIsNewMemory(t *testing.T) {
	c := newChip(t, NewPower(), 1, 4, 9)
	wantErr(t, c.Program(0, 0, "a"), api.OK)
	wantErr(t, c.Program(0, 1, "b"), api.OK)
	one, other := c.History(), c.History()
	clear(one)
	if !slices.Equal(other, []string{full("a"), full("b")}) {
		t.Error("two answers share memory")
	}
	_ = append(other[:1], "x")
	wantErr(t, c.Program(0, 2, "c"), api.OK)
	_ = append(other, "y")
	wantHistory(t, c, full("a"), full("b"), full("c"))
	wantPage(t, c, 0, 0, full("a"))
}

// P10.6, and all of it against a plain form of the chapter's words

// plainPower counts its acts, and knows the number of the one at which it goes (0, if there is none).
type plainPower struct {
	up         bool
	acts, goes int
	keep       int
	junk       byte
}

func (p *plainPower) fuse(n, keep int, junk byte) {
	p.goes = 0
	if n >= 1 {
		p.goes = p.acts + n
	}
	p.keep, p.junk = keep, junk
	if keep < 0 {
		p.keep = 0
	}
}

func (p *plainPower) act() bool {
	p.acts++
	if p.acts == p.goes {
		p.up = false
	}
	return p.up
}

// plainChip has its pages in a map, in which those that are not programmed are not.
type plainChip struct {
	p                  *plainPower
	segs, pages, rated int
	bad                []int
	at                 map[[2]int]string
	wear               map[int]int
	history            []string
	erases             int
}

func (c *plainChip) program(seg, page int, s string) api.Errno {
	if !c.p.up {
		return api.ErrOff
	}
	if seg < 0 || seg >= c.segs || page < 0 || page >= c.pages || len(s) > 256 {
		return api.ErrArg
	}
	if _, is := c.at[[2]int{seg, page}]; is {
		return api.ErrUsed
	}
	text, e := full(s), api.OK
	if !c.p.act() {
		text, e = torn(s, min(c.p.keep, 256), c.p.junk), api.ErrOff
	}
	c.at[[2]int{seg, page}] = text
	c.history = append(c.history, text)
	return e
}

func (c *plainChip) erase(seg int) api.Errno {
	if !c.p.up {
		return api.ErrOff
	}
	if seg < 0 || seg >= c.segs {
		return api.ErrArg
	}
	if slices.Contains(c.bad, seg) || c.wear[seg] == c.rated {
		return api.ErrWorn
	}
	pages, e := c.pages, api.OK
	if !c.p.act() {
		pages, e = min(c.p.keep, c.pages), api.ErrOff
	}
	for page := range pages {
		delete(c.at, [2]int{seg, page})
	}
	c.wear[seg]++
	c.erases++
	return e
}

func (c *plainChip) read(seg, page int) (string, bool, api.Errno) {
	if !c.p.up {
		return "", false, api.ErrOff
	}
	if seg < 0 || seg >= c.segs || page < 0 || page >= c.pages {
		return "", false, api.ErrArg
	}
	s, is := c.at[[2]int{seg, page}]
	return s, is, api.OK
}

// pair is a chip and its plain form, which are driven alike.
type pair struct {
	p     *Power
	c     *Chip
	plain *plainChip
}

func newPair(t *testing.T, next func(int) int) pair {
	segs, pages, rated := 1+next(4), 1+next(5), next(7)
	var bad []int
	for range next(3) {
		bad = append(bad, next(segs+2)-1)
	}
	p := NewPower()
	plain := &plainChip{p: &plainPower{up: true}, segs: segs, pages: pages, rated: rated, bad: bad, at: map[[2]int]string{}, wear: map[int]int{}}
	return pair{p, newChip(t, p, segs, pages, rated, bad...), plain}
}

// step does one thing with both, and tells whether they answered alike.
func (x pair) step(next func(int) int) bool {
	seg, page := next(x.plain.segs+2)-1, next(x.plain.pages+2)-1
	switch next(14) {
	case 0:
		return x.c.Erase(seg) == x.plain.erase(seg)
	case 1:
		n, keep, junk := next(7)-1, []int{next(8) - 1, next(300)}[next(2)], byte(next(256))
		x.p.Fuse(n, keep, junk)
		x.plain.p.fuse(n, keep, junk)
	case 2:
		if next(4) == 0 {
			x.p.Cut()
			x.plain.p.up = false
		}
	case 3, 4:
		x.p.On()
		x.plain.p.up, x.plain.p.goes = true, 0
	case 5:
		may, whole := x.p.Act()
		wantMay := x.plain.p.up
		wantWhole := wantMay && x.plain.p.act()
		return may == wantMay && whole == wantWhole
	default:
		s := strings.Repeat(string([]byte{byte(next(256))}), []int{next(5), next(257), 255 + next(4)}[next(3)])
		return x.c.Program(seg, page, s) == x.plain.program(seg, page, s)
	}
	return true
}

// isAlike tells whether both tell the same of all that can be asked.
func (x pair) isAlike() bool {
	keep, junk := x.p.Kept()
	programs, erases := x.c.Counts()
	alike := x.p.Up() == x.plain.p.up && keep == x.plain.p.keep && junk == x.plain.p.junk &&
		programs == len(x.plain.history) && erases == x.plain.erases && slices.Equal(x.c.History(), x.plain.history)
	for seg := -1; seg <= x.plain.segs; seg++ {
		alike = alike && x.c.Wear(seg) == x.plain.wear[seg]
		for page := -1; page <= x.plain.pages; page++ {
			s, is, e := x.c.Read(seg, page)
			wantS, wantIs, wantE := x.plain.read(seg, page)
			alike = alike && s == wantS && is == wantIs && e == wantE
		}
	}
	return alike
}

func TestAsThePlainForm(t *testing.T) {
	for seed := range uint64(300) {
		next := picker(seed)
		x := newPair(t, next)
		for i := range 150 {
			if !x.step(next) || !x.isAlike() {
				t.Fatalf("seed %d: other than the plain form behind act %d", seed, i)
			}
		}
	}
}

// A page that is programmed stays as it is, till its segment is erased; the history begins as it did.
func TestStays(t *testing.T) {
	for seed := range uint64(100) {
		next := picker(seed + 1000)
		x := newPair(t, next)
		stays := map[int]string{}
		var past []string
		for i := range 150 {
			wear := x.c.Wear(0)
			x.step(next)
			if x.c.Wear(0) != wear {
				clear(stays)
			}
			had := past
			past = x.c.History()
			if len(past) < len(had) || !slices.Equal(past[:len(had)], had) {
				t.Fatalf("seed %d: the history lost something at act %d", seed, i)
			}
			for page := range x.c.Pages() {
				s, is, e := x.c.Read(0, page)
				was, stood := stays[page]
				if e == api.OK && stood && (!is || s != was) {
					t.Fatalf("seed %d: page %d turned at act %d", seed, page, i)
				}
				if is {
					stays[page] = s
					if !slices.Contains(past, s) {
						t.Fatalf("seed %d: page %d is not in the history", seed, page)
					}
				}
			}
		}
	}
}

// Chips on one power go with it together, and count for one fuse; their pages are their own.
func TestChipsOnOnePower(t *testing.T) {
	p := NewPower()
	a, b := newChip(t, p, 1, 2, 1), newChip(t, p, 1, 2, 1)
	p.Fuse(3, 1, 'j')
	wantErr(t, a.Program(0, 0, "ab"), api.OK)
	wantErr(t, b.Program(0, 1, "cd"), api.OK)
	wantErr(t, a.Program(0, 1, "ef"), api.ErrOff)
	wantErr(t, b.Program(0, 0, "gh"), api.ErrOff)
	p.On()
	wantPage(t, a, 0, 0, full("ab"))
	wantPage(t, a, 0, 1, torn("ef", 1, 'j'))
	wantPage(t, b, 0, 0, "")
	wantPage(t, b, 0, 1, full("cd"))
	wantErr(t, a.Erase(0), api.OK)
	wantPage(t, b, 0, 1, full("cd"))
	wantCounts(t, a, 2, 1)
	wantCounts(t, b, 1, 0)
	wantHistory(t, a, full("ab"), torn("ef", 1, 'j'))
	wantHistory(t, b, full("cd"))
}
