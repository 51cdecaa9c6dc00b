package seglog

import (
	"cmp"
	"math"
	"math/rand"
	"slices"
	"strings"
	"testing"

	"oblivion/api"
	"oblivion/frame"
	"oblivion/nand"
)

// world is a chip, its power, and a log of it.
type world struct {
	t *testing.T
	p *nand.Power
	c *nand.Chip
	l *Log
}

// newWorld has a chip that may be erased rated times, and a log of it.
func newWorld(t *testing.T, segs, pages, rated int, bad ...int) *world {
	t.Helper()
	p := nand.NewPower()
	w := &world{t: t, p: p, c: nand.New(p, segs, pages, rated, bad)}
	w.mount()
	return w
}

// mount takes another log of the chip.
func (w *world) mount() {
	w.t.Helper()
	l, e := Mount(w.c)
	if l == nil || e != api.OK {
		w.t.Fatalf("Mount is %v, %d", l, e)
	}
	w.l = l
}

// program lets the chip's page have s, ahead of a Mount.
func (w *world) program(a Addr, s string) {
	w.t.Helper()
	wantErr(w.t, w.c.Program(a.Seg, a.Page, s), api.OK)
}

// wear erases a segment n times, ahead of a Mount.
func (w *world) wear(seg, n int) {
	w.t.Helper()
	for range n {
		wantErr(w.t, w.c.Erase(seg), api.OK)
	}
}

// add appends a frame with a text of its own to each of the places, which are those that the log is to choose.
func (w *world) add(places ...Addr) {
	w.t.Helper()
	for _, at := range places {
		text := "text " + strings.Repeat("x", int(w.l.Seq()%200))
		f := frame.Frame{Kind: 7, Seq: w.l.Seq(), Text: text}
		w.appended(7, text, 0, at)
		w.has(at, f)
	}
}

func (w *world) appended(kind byte, text string, reserve int, want Addr) {
	w.t.Helper()
	seq := w.l.Seq()
	if a, e := w.l.Append(kind, text, reserve); a != want || e != api.OK {
		w.t.Errorf("Append is %v, %d, want %v", a, e, want)
	}
	w.seq(seq + 1)
}

func (w *world) notAppended(kind byte, text string, reserve int, want api.Errno) {
	w.t.Helper()
	if a, e := w.l.Append(kind, text, reserve); a != (Addr{}) || e != want {
		w.t.Errorf("Append is %v, %d, want error %d", a, e, want)
	}
}

func (w *world) has(a Addr, want frame.Frame) {
	w.t.Helper()
	if f, e := w.l.Read(a); f != want || e != api.OK {
		w.t.Errorf("Read of %v is %v, %d, want %v", a, f, e, want)
	}
}

func (w *world) hasNot(a Addr, want api.Errno) {
	w.t.Helper()
	if f, e := w.l.Read(a); f != (frame.Frame{}) || e != want {
		w.t.Errorf("Read of %v is %v, %d, want error %d", a, f, e, want)
	}
}

func (w *world) erased(seg int, want api.Errno) {
	w.t.Helper()
	if e := w.l.Erase(seg); e != want {
		w.t.Errorf("Erase of %d is %d, want %d", seg, e, want)
	}
}

func (w *world) seq(want uint64) {
	w.t.Helper()
	if got := w.l.Seq(); got != want {
		w.t.Errorf("Seq is %d, want %d", got, want)
	}
}

func (w *world) open(want int) {
	w.t.Helper()
	if got := w.l.Open(); got != want {
		w.t.Errorf("Open is %d, want %d", got, want)
	}
}

func (w *world) free(want, room int) {
	w.t.Helper()
	if got := w.l.Free(); got != want {
		w.t.Errorf("Free is %d, want %d", got, want)
	}
	if got := w.l.Room(); got != room {
		w.t.Errorf("Room is %d, want %d", got, room)
	}
}

func (w *world) used(want ...int) {
	w.t.Helper()
	if got := w.l.Used(); !slices.Equal(got, want) {
		w.t.Errorf("Used is %d, want %d", got, want)
	}
}

func (w *world) retired(want ...int) {
	w.t.Helper()
	if got := w.l.Retired(); !slices.Equal(got, want) {
		w.t.Errorf("Retired is %d, want %d", got, want)
	}
}

func (w *world) all(kind byte, want ...Addr) {
	w.t.Helper()
	if got := w.l.All(kind); !slices.Equal(got, want) {
		w.t.Errorf("All of %d is %v, want %v", kind, got, want)
	}
}

// acts tells that the chip did so many Programs and Erases.
func (w *world) acts(programs, erases int) {
	w.t.Helper()
	if p, e := w.c.Counts(); p != programs || e != erases {
		w.t.Errorf("%d Programs and %d Erases, want %d and %d", p, e, programs, erases)
	}
}

func wantErr(t *testing.T, got, want api.Errno) {
	t.Helper()
	if got != want {
		t.Errorf("error %d, want %d", got, want)
	}
}

func wantNoMount(t *testing.T, c *nand.Chip, want api.Errno) {
	t.Helper()
	if l, e := Mount(c); l != nil || e != want {
		t.Errorf("Mount is %v, %d, want error %d", l, e, want)
	}
}

func pageOf(t *testing.T, kind byte, seq uint64, text string) string {
	t.Helper()
	page, e := frame.Put(frame.Frame{Kind: kind, Seq: seq, Text: text})
	wantErr(t, e, api.OK)
	return page
}

func full(s string) string {
	return s + strings.Repeat("\x00", 256-len(s))
}

func sample(n, from int) string {
	b := make([]byte, n)
	for i := range b {
		b[i] = byte(from + 7*i)
	}
	return string(b)
}

// noNumbers are numbers of segments, or of pages, that a thing with n of them has not.
func noNumbers(n int) []int {
	return []int{-1, -2, math.MinInt, math.MinInt + 1, math.MinInt32, n, n + 1, n + 64, n + 256, math.MaxInt32, 1 << 32, math.MaxInt - 1, math.MaxInt}
}

func TestErrors(t *testing.T) {
	if api.ErrArg != 1 || api.ErrFull != 2 || api.ErrNone != 3 || api.ErrOff != 4 || api.ErrWide != 11 || api.ErrWorn != 101 || api.ErrTorn != 120 {
		t.Error("other numbers")
	}
}

// P13.1

func TestMountOfNoChip(t *testing.T) {
	wantNoMount(t, nil, api.ErrArg)
}

func TestMountWithoutPower(t *testing.T) {
	w := newWorld(t, 2, 3, 4)
	w.add(Addr{0, 0})
	w.p.Cut()
	wantNoMount(t, w.c, api.ErrOff)
	w.p.On()
	w.mount()
	w.seq(2)
	w.p.Fuse(1, 1, 1)
	w.notAppended(1, "", 0, api.ErrOff)
	wantNoMount(t, w.c, api.ErrOff)
}

func TestMountOfANewChip(t *testing.T) {
	for _, size := range [][2]int{{1, 1}, {3, 4}, {64, 16}, {64, 1}, {1, 16}} {
		w := newWorld(t, size[0], size[1], 5, 0)
		w.seq(1)
		w.open(-1)
		w.retired()
		w.used()
		w.free(size[0], size[0]*size[1])
		w.all(1)
	}
}

// Nothing is open and nothing retired, whatever another log had.
func TestMountAnewOpensAndRetiresNothing(t *testing.T) {
	w := newWorld(t, 4, 2, 9, 2)
	w.add(Addr{0, 0})
	w.erased(2, api.ErrWorn)
	w.open(0)
	w.retired(2)
	w.free(2, 5)
	old := w.l
	w.mount()
	w.open(-1)
	w.retired()
	w.used(0)
	w.free(3, 6)
	w.l = old
	w.open(0)
	w.retired(2)
}

func TestMountIsNoAct(t *testing.T) {
	w := newWorld(t, 2, 2, 9)
	w.add(Addr{0, 0})
	w.p.Fuse(1, 0, 0)
	w.mount()
	w.mount()
	w.acts(1, 0)
	if len(w.c.History()) != 1 || !w.p.Up() {
		t.Error("Mount did something to the chip")
	}
	if may, whole := w.p.Act(); !may || whole {
		t.Error("Mount was an act")
	}
}

// The greatest number counts, wherever it stands, not the last one, nor how many frames there are.
func TestSeqBehindTheGreatest(t *testing.T) {
	for _, seqs := range [][]uint64{{1}, {5}, {9, 3, 1}, {1, 9, 3}, {1, 3, 9}, {0}, {0, 0}, {7, 7}, {math.MaxUint64 - 1, 2}, {1 << 32, 1 << 31, 1<<32 + 1}, {1 << 63, 1<<63 - 1}} {
		w := newWorld(t, 3, 2, 9)
		for i, seq := range seqs {
			// The last segment first, and the second pages alone: what is in front is not programmed.
			w.program(Addr{2 - i, 1}, pageOf(t, byte(1+i), seq, "x"))
		}
		w.seq(1)
		w.mount()
		w.seq(slices.Max(seqs) + 1)
	}
}

func TestSeqOfAllPages(t *testing.T) {
	for seg := range 3 {
		for page := range 4 {
			for _, kind := range []byte{1, 2, 255} {
				w := newWorld(t, 3, 4, 0, 1)
				for other := range 4 {
					w.program(Addr{1 - min(seg, 1), other}, pageOf(t, 1, 3, ""))
				}
				w.program(Addr{seg, page}, pageOf(t, kind, 40, "x"))
				w.mount()
				w.seq(41)
			}
		}
	}
}

// Pages that no frame is got of have no number, even where its bytes stand.
func TestSeqOfTornPages(t *testing.T) {
	high := pageOf(t, 1, 500, "some text")
	torn := []string{"", "x", high[:9], high[:100], high[:255] + "?", "\x00" + high[1:], strings.Repeat("\xff", 256), strings.Repeat("\x00", 256)}
	for _, page := range torn {
		w := newWorld(t, 2, 3, 9)
		w.program(Addr{0, 0}, page)
		w.mount()
		w.seq(1)
		w.program(Addr{0, 1}, pageOf(t, 1, 6, "a"))
		w.program(Addr{1, 2}, page)
		w.mount()
		w.seq(7)
	}
}

func TestSeqIsOneMoreWithEachProgram(t *testing.T) {
	w := newWorld(t, 4, 2, 9)
	for i := range 8 {
		w.seq(uint64(1 + i))
		w.add(Addr{i / 2, i % 2})
	}
	w.seq(9)
	w.notAppended(1, "", 0, api.ErrFull)
	w.seq(9)
	w.erased(0, api.OK)
	w.erased(3, api.OK)
	w.seq(9)
	w.add(Addr{0, 0})
	w.has(Addr{0, 0}, frame.Frame{Kind: 7, Seq: 9, Text: "text xxxxxxxxx"})
	w.seq(10)
}

// The number is the log's own, also when the frames that had the greatest ones are gone.
func TestSeqIsKept(t *testing.T) {
	w := newWorld(t, 2, 1, 9)
	w.add(Addr{0, 0}, Addr{1, 0})
	w.erased(1, api.OK)
	w.seq(3)
	old := w.l
	w.mount()
	w.seq(2)
	w.erased(0, api.OK)
	w.mount()
	w.seq(1)
	w.l = old
	w.seq(3)
}

// P13.2

func TestAppendRefusesWhatPutDoes(t *testing.T) {
	w := newWorld(t, 2, 2, 9)
	check := func(when string) {
		t.Helper()
		seq, at := w.l.Seq(), w.l.Open()
		for _, n := range []int{0, 1, 229, 230, 256, 3000} {
			w.notAppended(0, sample(n, 1), 0, api.ErrArg)
			w.notAppended(0, sample(n, 1), 99, api.ErrArg)
		}
		for _, n := range []int{230, 231, 256, 3000, 65536} {
			w.notAppended(1, sample(n, 1), 0, api.ErrWide)
			w.notAppended(255, sample(n, 1), math.MaxInt, api.ErrWide)
		}
		if w.l.Seq() != seq || w.l.Open() != at {
			t.Errorf("%s: Seq is %d, Open is %d", when, w.l.Seq(), w.l.Open())
		}
	}
	check("new")
	w.free(2, 4)
	w.add(Addr{0, 0})
	check("open")
	w.p.Cut()
	check("off")
	w.p.On()
	w.add(Addr{0, 1})
	check("full segment")
	w.add(Addr{1, 0}, Addr{1, 1})
	check("full chip")
	w.acts(4, 0)
}

func TestAppendOfAllKindsAndLengths(t *testing.T) {
	w := newWorld(t, 64, 16, 9)
	at, kind := 0, byte(1)
	for n := range 230 {
		a := Addr{at / 16, at % 16}
		w.appended(kind, sample(n, n), 0, a)
		f := frame.Frame{Kind: kind, Seq: uint64(at + 1), Text: sample(n, n)}
		w.has(a, f)
		page, programmed, e := w.c.Read(a.Seg, a.Page)
		if want := pageOf(t, f.Kind, f.Seq, f.Text); page != want || !programmed || e != api.OK {
			t.Errorf("page %v has %x, want %x", a, page, want)
		}
		at, kind = at+1, kind+1
	}
	for kind := 1; kind <= 255; kind++ {
		w.appended(byte(kind), "", 0, Addr{at / 16, at % 16})
		at++
	}
	w.acts(at, 0)
}

func TestAppendFillsTheChip(t *testing.T) {
	for _, size := range [][2]int{{1, 1}, {1, 16}, {5, 1}, {3, 4}, {64, 2}} {
		w := newWorld(t, size[0], size[1], 9)
		for seg := range size[0] {
			for page := range size[1] {
				w.add(Addr{seg, page})
				w.open(seg)
			}
		}
		w.free(0, 0)
		seq := w.l.Seq()
		for _, reserve := range []int{0, -1, 1, math.MinInt, math.MaxInt} {
			w.notAppended(1, "", reserve, api.ErrFull)
		}
		w.seq(seq)
		w.open(size[0] - 1)
		w.acts(size[0]*size[1], 0)
	}
}

func TestReserve(t *testing.T) {
	for _, reserve := range []int{-2, -1, math.MinInt, math.MinInt + 1, 0, 1, 2, 3, 4, 5, 64, 300, 1 << 32, math.MaxInt - 1, math.MaxInt} {
		for frees := range 5 {
			w := newWorld(t, 4, 1, 9)
			for seg := range 4 - frees {
				w.add(Addr{seg, 0})
			}
			if frees > max(reserve, 0) {
				w.appended(1, "", reserve, Addr{4 - frees, 0})
				w.open(4 - frees)
				continue
			}
			at, seq := w.l.Open(), w.l.Seq()
			w.notAppended(1, "", reserve, api.ErrFull)
			w.open(at)
			w.seq(seq)
			w.acts(4-frees, 0)
		}
	}
}

// As long as the open segment has a page, no free one is needed.
func TestReserveIsNotAskedWhileThereAreOpenPages(t *testing.T) {
	w := newWorld(t, 2, 4, 9)
	w.notAppended(1, "", 2, api.ErrFull)
	w.appended(1, "a", 1, Addr{0, 0})
	w.appended(1, "b", 1, Addr{0, 1})
	w.appended(1, "c", 2, Addr{0, 2})
	w.appended(1, "d", math.MaxInt, Addr{0, 3})
	w.notAppended(1, "e", 1, api.ErrFull)
	w.appended(1, "e", 0, Addr{1, 0})
	w.appended(1, "f", 64, Addr{1, 1})
}

// A segment that is retired, or has a page, is none of the free ones that the reserve is held against.
func TestReserveOfFreeOnes(t *testing.T) {
	w := newWorld(t, 5, 2, 9, 0, 4)
	w.program(Addr{2, 1}, "x")
	w.mount()
	w.free(4, 8)
	w.notAppended(1, "", 4, api.ErrFull)
	w.erased(4, api.ErrWorn)
	w.notAppended(1, "", 3, api.ErrFull)
	w.erased(0, api.ErrWorn)
	w.notAppended(1, "", 2, api.ErrFull)
	w.appended(1, "", 1, Addr{1, 0})
}

func TestLeastErasedIsOpened(t *testing.T) {
	for _, x := range []struct {
		wear  []int
		order []int
	}{
		{[]int{0, 0, 0}, []int{0, 1, 2}},
		{[]int{1, 0, 0}, []int{1, 2, 0}},
		{[]int{2, 1, 0}, []int{2, 1, 0}},
		{[]int{1, 2, 1, 0, 2}, []int{3, 0, 2, 1, 4}},
		{[]int{3, 3, 2, 3, 2}, []int{2, 4, 0, 1, 3}},
		{[]int{0, 9, 8, 9, 8, 1}, []int{0, 5, 2, 4, 1, 3}},
	} {
		w := newWorld(t, len(x.wear), 1, 20)
		for seg, n := range x.wear {
			w.wear(seg, n)
		}
		w.mount()
		for _, seg := range x.order {
			w.add(Addr{seg, 0})
			w.open(seg)
		}
	}
}

func TestErasedByTheLogCountsToo(t *testing.T) {
	w := newWorld(t, 3, 1, 20)
	for _, seg := range []int{0, 1, 2} {
		w.add(Addr{seg, 0})
	}
	w.erased(0, api.OK)
	w.erased(0, api.OK)
	w.erased(2, api.OK)
	w.add(Addr{2, 0})
	w.erased(1, api.OK)
	w.add(Addr{1, 0}, Addr{0, 0})
}

// One that was erased least often, but has a page, is not opened.
func TestOneWithAnyPageIsNotOpened(t *testing.T) {
	for page := range 4 {
		w := newWorld(t, 2, 4, 9)
		w.wear(1, 3)
		w.program(Addr{0, page}, "x")
		w.mount()
		w.used(0)
		w.free(1, 4)
		w.notAppended(1, "", 1, api.ErrFull)
		w.add(Addr{1, 0})
	}
}

func TestRetiredOneIsNotOpened(t *testing.T) {
	w := newWorld(t, 3, 1, 9, 0, 1)
	w.wear(2, 3)
	w.mount()
	w.erased(0, api.ErrWorn)
	w.add(Addr{1, 0}, Addr{2, 0})
	w.notAppended(1, "", 0, api.ErrFull)
	// Behind another Mount it is as good as any.
	w.mount()
	w.add(Addr{0, 0})
}

// Till the next Append the open segment stays so, though it is full.
func TestAFullOneIsOpenTillTheNext(t *testing.T) {
	w := newWorld(t, 3, 2, 9)
	w.add(Addr{0, 0}, Addr{0, 1})
	w.open(0)
	w.used()
	w.free(2, 4)
	w.add(Addr{1, 0})
	w.open(1)
	w.used(0)
	w.free(1, 3)
}

// A Program that is done in part takes its page and its number.
func TestProgramInPart(t *testing.T) {
	for _, keep := range []int{0, 1, 11, 100, 255} {
		w := newWorld(t, 2, 3, 9)
		w.add(Addr{0, 0})
		w.p.Fuse(1, keep, 'x')
		w.notAppended(1, "torn", 0, api.ErrOff)
		w.seq(3)
		w.open(0)
		w.p.On()
		w.hasNot(Addr{0, 1}, api.ErrTorn)
		w.free(1, 4)
		w.add(Addr{0, 2})
		w.seq(4)
		w.add(Addr{1, 0})
		w.used(0)
	}
}

// The power may go when all of the page is programmed: the answer is an error still.
func TestProgramInPartThatIsWhole(t *testing.T) {
	for _, keep := range []int{256, 257, math.MaxInt} {
		w := newWorld(t, 2, 2, 9)
		w.p.Fuse(1, keep, 'x')
		w.notAppended(3, "whole", 0, api.ErrOff)
		w.seq(2)
		w.p.On()
		w.has(Addr{0, 0}, frame.Frame{Kind: 3, Seq: 1, Text: "whole"})
		w.add(Addr{0, 1})
		w.all(3, Addr{0, 0})
	}
}

// The segment that was opened for a Program that fails is open behind it.
func TestProgramInPartInANewSegment(t *testing.T) {
	w := newWorld(t, 3, 2, 9)
	w.add(Addr{0, 0}, Addr{0, 1})
	w.p.Fuse(1, 9, 'x')
	w.notAppended(1, "torn", 1, api.ErrOff)
	w.open(1)
	w.seq(4)
	w.p.On()
	w.used(0)
	w.free(1, 3)
	w.add(Addr{1, 1}, Addr{2, 0})
}

func TestAppendWithoutPowerToTheOpenSegment(t *testing.T) {
	w := newWorld(t, 3, 2, 9)
	w.add(Addr{0, 0})
	for i := range 3 {
		w.p.Cut()
		w.notAppended(1, "", math.MaxInt, api.ErrOff)
		w.open(0)
		w.seq(uint64(3 + i))
	}
	w.p.On()
	w.hasNot(Addr{0, 1}, api.ErrNone)
	w.acts(1, 0)
	w.add(Addr{0, 1})
	w.has(Addr{0, 1}, frame.Frame{Kind: 7, Seq: 5, Text: "text xxxxx"})
	// A full one is as if it had no pages, so that no other is opened, and none is wanting.
	w.p.Cut()
	w.notAppended(1, "", 0, api.ErrOff)
	w.notAppended(1, "", 99, api.ErrOff)
	w.open(0)
	w.seq(8)
	w.p.On()
	w.notAppended(1, "", 2, api.ErrFull)
	w.add(Addr{1, 0})
}

// Without power all segments but those that are retired are as if they were free; the one that is opened stays so.
func TestAppendWithoutPowerOpensAny(t *testing.T) {
	w := newWorld(t, 4, 2, 9, 0)
	w.program(Addr{2, 0}, pageOf(t, 1, 10, "a"))
	w.wear(1, 2)
	w.wear(3, 1)
	w.mount()
	w.erased(0, api.ErrWorn)
	w.p.Cut()
	w.notAppended(1, "b", 3, api.ErrFull)
	w.notAppended(1, "b", 4, api.ErrFull)
	w.open(-1)
	w.seq(11)
	w.notAppended(1, "b", 2, api.ErrOff)
	w.open(2)
	w.seq(12)
	w.p.On()
	w.open(2)
	w.used()
	w.free(2, 5)
	w.acts(1, 3)
	w.appended(1, "c", 99, Addr{2, 1})
	w.has(Addr{2, 0}, frame.Frame{Kind: 1, Seq: 10, Text: "a"})
	w.has(Addr{2, 1}, frame.Frame{Kind: 1, Seq: 12, Text: "c"})
	w.add(Addr{3, 0})
	w.used(2)
}

func TestAppendWithoutPowerOpensAFullOne(t *testing.T) {
	w := newWorld(t, 2, 1, 9)
	w.program(Addr{0, 0}, "x")
	w.mount()
	w.p.Cut()
	w.notAppended(1, "", -5, api.ErrOff)
	w.open(0)
	w.p.On()
	w.open(0)
	w.used()
	w.free(1, 1)
	w.notAppended(1, "", 1, api.ErrFull)
	w.add(Addr{1, 0})
	w.used(0)
}

func TestAppendWithoutPowerWhenAllAreRetired(t *testing.T) {
	w := newWorld(t, 2, 3, 0)
	w.erased(0, api.ErrWorn)
	w.erased(1, api.ErrWorn)
	w.notAppended(1, "", 0, api.ErrFull)
	w.p.Cut()
	w.notAppended(1, "", 0, api.ErrFull)
	w.notAppended(1, "", -1, api.ErrFull)
	w.seq(1)
	w.open(-1)
	w.free(0, 0)
}

// P13.3

func TestRead(t *testing.T) {
	w := newWorld(t, 2, 4, 9)
	w.program(Addr{1, 0}, pageOf(t, 200, math.MaxUint64-3, sample(229, 5)))
	w.program(Addr{1, 1}, "no frame")
	w.program(Addr{1, 3}, pageOf(t, 1, 0, ""))
	w.mount()
	w.has(Addr{1, 0}, frame.Frame{Kind: 200, Seq: math.MaxUint64 - 3, Text: sample(229, 5)})
	w.hasNot(Addr{1, 1}, api.ErrTorn)
	w.hasNot(Addr{1, 2}, api.ErrNone)
	w.has(Addr{1, 3}, frame.Frame{Kind: 1})
	for page := range 4 {
		w.hasNot(Addr{0, page}, api.ErrNone)
	}
	w.acts(3, 0)
}

func TestReadOfNoPage(t *testing.T) {
	w := newWorld(t, 3, 4, 9)
	w.add(Addr{0, 0})
	for _, seg := range noNumbers(3) {
		w.hasNot(Addr{seg, 0}, api.ErrArg)
		w.hasNot(Addr{seg, -1}, api.ErrArg)
	}
	for _, page := range noNumbers(4) {
		w.hasNot(Addr{0, page}, api.ErrArg)
		w.hasNot(Addr{2, page}, api.ErrArg)
	}
}

// The chip names ErrOff first.
func TestReadWithoutPower(t *testing.T) {
	w := newWorld(t, 2, 2, 9)
	w.add(Addr{0, 0})
	w.program(Addr{0, 1}, "x")
	w.p.Cut()
	for _, a := range []Addr{{0, 0}, {0, 1}, {1, 0}, {2, 0}, {0, 2}, {-1, -1}, {math.MaxInt, math.MinInt}} {
		w.hasNot(a, api.ErrOff)
	}
	w.p.On()
	w.has(Addr{0, 0}, frame.Frame{Kind: 7, Seq: 1, Text: "text x"})
	w.hasNot(Addr{0, 1}, api.ErrTorn)
}

// What a retired segment has can be read.
func TestReadOfRetired(t *testing.T) {
	w := newWorld(t, 2, 2, 0)
	w.add(Addr{0, 0})
	w.erased(0, api.ErrWorn)
	w.has(Addr{0, 0}, frame.Frame{Kind: 7, Seq: 1, Text: "text x"})
	w.hasNot(Addr{0, 1}, api.ErrNone)
	w.all(7, Addr{0, 0})
}

// P13.4

// Here ErrArg is named first, whether the power is up, or not.
func TestEraseOfNone(t *testing.T) {
	w := newWorld(t, 3, 2, 9)
	w.add(Addr{0, 0})
	for range 2 {
		for _, seg := range noNumbers(3) {
			w.erased(seg, api.ErrArg)
		}
		w.open(0)
		w.retired()
		w.p.Cut()
	}
	w.acts(1, 0)
}

func TestEraseWithNoneOpen(t *testing.T) {
	w := newWorld(t, 2, 1, 9)
	w.erased(-1, api.ErrArg)
	w.erased(0, api.OK)
	w.open(-1)
	if w.c.Wear(0) != 1 || w.c.Wear(1) != 0 {
		t.Error("another wear")
	}
}

func TestErase(t *testing.T) {
	w := newWorld(t, 3, 2, 9)
	w.add(Addr{0, 0}, Addr{0, 1}, Addr{1, 0})
	w.erased(0, api.OK)
	w.open(1)
	w.used()
	w.retired()
	w.free(2, 5)
	w.hasNot(Addr{0, 0}, api.ErrNone)
	w.hasNot(Addr{0, 1}, api.ErrNone)
	w.has(Addr{1, 0}, frame.Frame{Kind: 7, Seq: 3, Text: "text xxx"})
	w.acts(3, 1)
	w.seq(4)
}

func TestEraseOfTheOpen(t *testing.T) {
	w := newWorld(t, 2, 2, 9)
	w.add(Addr{0, 0})
	w.erased(0, api.OK)
	w.open(-1)
	w.free(2, 4)
	w.add(Addr{1, 0})
	w.erased(1, api.OK)
	w.open(-1)
	w.add(Addr{0, 0})
	w.seq(4)
}

func TestEraseOfBad(t *testing.T) {
	w := newWorld(t, 4, 2, 9, 3, 1)
	w.free(4, 8)
	w.erased(3, api.ErrWorn)
	w.retired(3)
	w.free(3, 6)
	w.erased(1, api.ErrWorn)
	w.erased(3, api.ErrWorn)
	w.retired(1, 3)
	w.free(2, 4)
	w.used()
	w.acts(0, 0)
}

func TestEraseOfWorn(t *testing.T) {
	w := newWorld(t, 2, 2, 2)
	w.erased(0, api.OK)
	w.erased(0, api.OK)
	w.retired()
	w.free(2, 4)
	w.add(Addr{1, 0}, Addr{1, 1}, Addr{0, 0})
	w.erased(0, api.ErrWorn)
	w.retired(0)
	w.used(1)
	w.open(-1)
	w.free(0, 0)
	w.erased(1, api.OK)
	w.free(1, 2)
	w.retired(0)
	w.has(Addr{0, 0}, frame.Frame{Kind: 7, Seq: 3, Text: "text xxx"})
}

func TestEraseOfTheOpenThatIsWorn(t *testing.T) {
	w := newWorld(t, 3, 2, 9, 0)
	w.add(Addr{0, 0})
	w.erased(0, api.ErrWorn)
	w.open(-1)
	w.retired(0)
	w.used()
	w.free(2, 4)
	w.add(Addr{1, 0})
	// Another one's error lets the open one be.
	w.erased(0, api.ErrWorn)
	w.open(1)
}

func TestEraseWithoutPower(t *testing.T) {
	w := newWorld(t, 3, 2, 9, 0, 2)
	w.add(Addr{0, 0})
	w.p.Cut()
	for seg := range 3 {
		w.erased(seg, api.ErrOff)
	}
	w.open(0)
	w.retired()
	w.p.On()
	w.open(0)
	w.retired()
	w.has(Addr{0, 0}, frame.Frame{Kind: 7, Seq: 1, Text: "text x"})
	w.acts(1, 0)
}

// Behind an Erase in part the open segment stays so: its first page that is not programmed comes next.
func TestEraseInPart(t *testing.T) {
	for keep := range 4 {
		w := newWorld(t, 2, 3, 9)
		w.add(Addr{0, 0}, Addr{0, 1}, Addr{0, 2})
		w.p.Fuse(1, keep, 0)
		w.erased(0, api.ErrOff)
		w.open(0)
		w.retired()
		w.p.On()
		w.used()
		w.seq(4)
		for page := range 3 {
			if page < keep {
				w.add(Addr{0, page})
				w.open(0)
			}
		}
		w.add(Addr{1, 0})
		w.used(0)
	}
}

func TestEraseInPartOfAnother(t *testing.T) {
	for keep := range 3 {
		w := newWorld(t, 2, 2, 9)
		w.add(Addr{0, 0}, Addr{0, 1}, Addr{1, 0})
		w.p.Fuse(1, keep, 0)
		w.erased(0, api.ErrOff)
		w.p.On()
		w.open(1)
		if keep == 2 {
			w.used()
			w.free(1, 3)
			continue
		}
		w.used(0)
		w.free(0, 1)
	}
}

// P13.5

func TestRoomOfANewChip(t *testing.T) {
	newWorld(t, 3, 4, 5).free(3, 12)
	newWorld(t, 64, 16, 5).free(64, 1024)
}

// Room is just how many pages can be appended.
func TestRoomIsWhatCanBeAppended(t *testing.T) {
	for _, x := range []func(w *world){
		func(w *world) {},
		func(w *world) { w.add(Addr{0, 0}) },
		func(w *world) { w.erased(4, api.ErrWorn) },
		func(w *world) { w.add(Addr{0, 0}); w.erased(0, api.OK) },
		func(w *world) { w.add(Addr{0, 0}, Addr{0, 1}, Addr{0, 2}, Addr{1, 0}) },
		func(w *world) { w.add(Addr{0, 0}); w.mount() },
		func(w *world) { w.p.Cut(); w.l.Append(1, "", 0); w.p.On() },
		func(w *world) { w.add(Addr{0, 0}); w.p.Fuse(1, 1, 1); w.l.Erase(0); w.p.On() },
		func(w *world) { w.add(Addr{0, 0}); w.p.Fuse(1, 1, 1); w.l.Append(1, "", 0); w.p.On() },
	} {
		w := newWorld(t, 5, 3, 9, 4)
		x(w)
		for room := w.l.Room(); room > 0; room-- {
			if a, e := w.l.Append(1, "x", 0); e != api.OK {
				t.Fatalf("Append is %v, %d, room is %d", a, e, room)
			}
			if w.l.Room() != room-1 {
				t.Fatalf("Room is %d, was %d", w.l.Room(), room)
			}
		}
		w.notAppended(1, "x", 0, api.ErrFull)
	}
}

// An open segment none of whose pages is programmed is free, too; its pages count once.
func TestAnOpenOneWithoutPagesIsFree(t *testing.T) {
	w := newWorld(t, 3, 4, 9)
	w.p.Cut()
	w.notAppended(1, "", 0, api.ErrOff)
	w.p.On()
	w.open(0)
	w.free(3, 12)
	w.used()
	w.add(Addr{0, 0})
	w.free(2, 11)
	w.p.Fuse(1, 9, 0)
	w.erased(0, api.ErrOff)
	w.p.On()
	w.open(0)
	w.free(3, 12)
	w.add(Addr{0, 0})
}

func TestClassesRise(t *testing.T) {
	w := newWorld(t, 64, 1, 9, 63, 5, 0, 31)
	for _, seg := range []int{60, 2, 33, 31, 1} {
		w.program(Addr{seg, 0}, "x")
	}
	w.mount()
	for _, seg := range []int{63, 5, 31} {
		w.erased(seg, api.ErrWorn)
	}
	w.add(Addr{0, 0})
	w.retired(5, 31, 63)
	w.used(1, 2, 33, 60)
	w.open(0)
	w.free(56, 56)
	w.erased(0, api.ErrWorn)
	w.retired(0, 5, 31, 63)
	w.open(-1)
}

func TestAll(t *testing.T) {
	w := newWorld(t, 3, 4, 9, 0)
	w.program(Addr{2, 3}, pageOf(t, 1, 1, "a"))
	w.program(Addr{0, 1}, pageOf(t, 1, 9, "b"))
	w.program(Addr{2, 0}, pageOf(t, 255, 2, "c"))
	w.program(Addr{2, 1}, pageOf(t, 1, 2, "c"))
	w.program(Addr{0, 0}, pageOf(t, 1, 2, "c")[:200])
	w.program(Addr{0, 2}, "")
	w.mount()
	w.erased(0, api.ErrWorn)
	w.appended(1, "d", 0, Addr{1, 0})
	w.appended(2, "e", 0, Addr{1, 1})
	w.all(1, Addr{0, 1}, Addr{1, 0}, Addr{2, 1}, Addr{2, 3})
	w.all(255, Addr{2, 0})
	w.all(2, Addr{1, 1})
	w.all(3)
	w.all(0)
	w.erased(1, api.OK)
	w.all(1, Addr{0, 1}, Addr{2, 1}, Addr{2, 3})
	w.all(2)
}

func TestTellingWithoutPower(t *testing.T) {
	w := newWorld(t, 4, 2, 9, 3)
	w.add(Addr{0, 0}, Addr{0, 1}, Addr{1, 0})
	w.erased(3, api.ErrWorn)
	w.used(0)
	w.free(1, 3)
	w.p.Cut()
	w.used()
	w.free(3, 6)
	w.open(1)
	w.retired(3)
	w.all(7)
	w.all(0)
	w.seq(4)
	w.p.On()
	w.used(0)
	w.free(1, 3)
	w.all(7, Addr{0, 0}, Addr{0, 1}, Addr{1, 0})
}

func TestTellingWithoutPowerAndNoneOpen(t *testing.T) {
	w := newWorld(t, 3, 2, 9, 1)
	w.add(Addr{0, 0})
	w.mount()
	w.erased(1, api.ErrWorn)
	w.p.Cut()
	w.free(2, 4)
	w.used()
	w.open(-1)
	w.retired(1)
}

func TestTellingIsNoAct(t *testing.T) {
	w := newWorld(t, 3, 2, 9)
	w.add(Addr{0, 0}, Addr{0, 1}, Addr{1, 0})
	w.p.Fuse(1, 0, 0)
	for range 3 {
		w.free(1, 3)
		w.used(0)
		w.retired()
		w.open(1)
		w.all(7, Addr{0, 0}, Addr{0, 1}, Addr{1, 0})
		w.hasNot(Addr{2, 0}, api.ErrNone)
		w.seq(4)
	}
	w.acts(3, 0)
	if !w.p.Up() {
		t.Error("the power went")
	}
}

func TestAnswersAreNew(t *testing.T) {
	w := newWorld(t, 4, 1, 9, 2, 3)
	w.add(Addr{0, 0}, Addr{1, 0})
	w.erased(2, api.ErrWorn)
	w.erased(3, api.ErrWorn)
	w.l.Retired()[0] = 9
	w.l.Used()[0] = 9
	w.l.All(7)[0] = Addr{9, 9}
	_ = append(w.l.Retired()[:1], 9)
	w.retired(2, 3)
	w.used(0)
	w.all(7, Addr{0, 0}, Addr{1, 0})
	w.free(0, 0)
}

// Two logs of two chips on one power have nothing in common.
func TestLogsAreTheirOwn(t *testing.T) {
	a := newWorld(t, 2, 2, 9, 1)
	b := &world{t: t, p: a.p, c: nand.New(a.p, 3, 1, 9, nil)}
	b.mount()
	a.add(Addr{0, 0})
	a.erased(1, api.ErrWorn)
	b.seq(1)
	b.open(-1)
	b.retired()
	b.free(3, 3)
	b.add(Addr{0, 0}, Addr{1, 0})
	a.seq(2)
	a.open(0)
	a.free(0, 1)
}

// P13.6

// plain is a log, and the chip below it, as the chapters' words say them: without a class, an iterator, or a chip.
type plain struct {
	segs, pages, rated int
	texts              map[Addr]string
	wears              map[int]int
	bad                map[int]bool
	up                 bool
	fuse, keep         int

	at      int
	seq     uint64
	retired map[int]bool
}

func newPlain(segs, pages, rated int, bad []int) *plain {
	m := &plain{segs: segs, pages: pages, rated: rated, texts: map[Addr]string{}, wears: map[int]int{}, bad: map[int]bool{}, up: true}
	for _, seg := range bad {
		m.bad[seg] = true
	}
	m.mount()
	return m
}

func (m *plain) mount() {
	m.at, m.seq, m.retired = -1, 1, map[int]bool{}
	for _, page := range m.texts {
		if f, e := frame.Get(page); e == api.OK {
			m.seq = max(m.seq, f.Seq+1)
		}
	}
}

// act tells whether the act that comes is done whole.
func (m *plain) act() bool {
	m.fuse--
	m.up = m.fuse != 0
	return m.up
}

func (m *plain) programmed(a Addr) bool {
	_, is := m.texts[a]
	return is && m.up
}

func (m *plain) blanks(seg int) []int {
	var out []int
	for page := range m.pages {
		if seg >= 0 && !m.programmed(Addr{seg, page}) {
			out = append(out, page)
		}
	}
	return out
}

func (m *plain) frees() []int {
	var out []int
	for seg := range m.segs {
		if !m.retired[seg] && len(m.blanks(seg)) == m.pages {
			out = append(out, seg)
		}
	}
	return out
}

func (m *plain) append(kind byte, text string, reserve int) (Addr, api.Errno) {
	page, e := frame.Put(frame.Frame{Kind: kind, Seq: m.seq, Text: text})
	if e != api.OK {
		return Addr{}, e
	}
	if len(m.blanks(m.at)) == 0 {
		frees := m.frees()
		if len(frees) <= max(reserve, 0) {
			return Addr{}, api.ErrFull
		}
		slices.SortStableFunc(frees, func(a, b int) int { return cmp.Compare(m.wears[a], m.wears[b]) })
		m.at = frees[0]
	}
	m.seq++
	if !m.up {
		return Addr{}, api.ErrOff
	}
	a := Addr{m.at, m.blanks(m.at)[0]}
	if !m.act() {
		keep := min(m.keep, 256)
		m.texts[a] = page[:keep] + strings.Repeat("j", 256-keep)
		return Addr{}, api.ErrOff
	}
	m.texts[a] = page
	return a, api.OK
}

func (m *plain) erase(seg int) api.Errno {
	switch {
	case seg < 0 || seg >= m.segs:
		return api.ErrArg
	case !m.up:
		return api.ErrOff
	}
	e := api.OK
	if m.bad[seg] || m.wears[seg] >= m.rated {
		m.retired[seg], e = true, api.ErrWorn
	} else {
		m.wears[seg]++
		whole := m.act()
		for page := range m.pages {
			if whole || page < m.keep {
				delete(m.texts, Addr{seg, page})
			}
		}
		if !whole {
			return api.ErrOff
		}
	}
	if m.at == seg {
		m.at = -1
	}
	return e
}

func (m *plain) read(a Addr) (frame.Frame, api.Errno) {
	switch {
	case !m.up:
		return frame.Frame{}, api.ErrOff
	case a.Seg < 0 || a.Seg >= m.segs || a.Page < 0 || a.Page >= m.pages:
		return frame.Frame{}, api.ErrArg
	case !m.programmed(a):
		return frame.Frame{}, api.ErrNone
	}
	return frame.Get(m.texts[a])
}

func (m *plain) usedAndRetired() (used, retired []int) {
	frees := m.frees()
	for seg := range m.segs {
		switch {
		case m.retired[seg]:
			retired = append(retired, seg)
		case seg != m.at && !slices.Contains(frees, seg):
			used = append(used, seg)
		}
	}
	return used, retired
}

// room counts pages, so that none can count twice.
func (m *plain) room() int {
	pages := map[Addr]bool{}
	for _, seg := range append(m.frees(), m.at) {
		for _, page := range m.blanks(seg) {
			pages[Addr{seg, page}] = true
		}
	}
	return len(pages)
}

func (m *plain) all(kind byte) []Addr {
	var out []Addr
	for seg := range m.segs {
		for page := range m.pages {
			a := Addr{seg, page}
			if f, e := m.read(a); e == api.OK && f.Kind == kind {
				out = append(out, a)
			}
		}
	}
	return out
}

// tellsAs holds all that the log tells against the plain form.
func (w *world) tellsAs(m *plain) {
	w.t.Helper()
	used, retired := m.usedAndRetired()
	w.seq(m.seq)
	w.open(m.at)
	w.free(len(m.frees()), m.room())
	w.used(used...)
	w.retired(retired...)
	for kind := range byte(5) {
		w.all(kind, m.all(kind)...)
	}
	for seg := -1; seg <= m.segs; seg++ {
		for page := -1; page <= m.pages; page++ {
			a := Addr{seg, page}
			want, wantE := m.read(a)
			if f, e := w.l.Read(a); f != want || e != wantE {
				w.t.Errorf("Read of %v is %v, %d, want %v, %d", a, f, e, want, wantE)
			}
		}
	}
}

// doAny does any act to both.
func (w *world) doAny(m *plain, r *rand.Rand) {
	w.t.Helper()
	switch n := r.Intn(100); {
	case n < 62:
		kind, text, reserve := byte(r.Intn(5)), sample(r.Intn(60), r.Intn(256)), r.Intn(4)-1
		if r.Intn(20) == 0 {
			text = sample(225+r.Intn(10), 1)
		}
		a, e := w.l.Append(kind, text, reserve)
		if want, wantE := m.append(kind, text, reserve); a != want || e != wantE {
			w.t.Errorf("Append is %v, %d, want %v, %d", a, e, want, wantE)
		}
	case n < 80:
		seg := r.Intn(m.segs+2) - 1
		if r.Intn(3) == 0 {
			seg = w.l.Open()
		}
		w.erased(seg, m.erase(seg))
	case n < 88:
		n, keep := 1+r.Intn(3), r.Intn(4)
		if r.Intn(2) == 0 {
			keep = r.Intn(260)
		}
		w.p.Fuse(n, keep, 'j')
		m.fuse, m.keep = n, keep
	case n < 91:
		w.p.Cut()
		m.up = false
	case n < 96 || !m.up:
		w.p.On()
		m.up, m.fuse = true, 0
	default:
		w.mount()
		m.mount()
	}
}

func TestAnyActsAsThePlainForm(t *testing.T) {
	for seed := range int64(250) {
		r := rand.New(rand.NewSource(seed))
		segs, pages, rated := 1+r.Intn(5), 1+r.Intn(4), r.Intn(5)
		var bad []int
		if r.Intn(2) == 0 {
			bad = append(bad, r.Intn(segs))
		}
		w := newWorld(t, segs, pages, rated, bad...)
		m := newPlain(segs, pages, rated, bad)
		for act := range 60 {
			w.doAny(m, r)
			w.tellsAs(m)
			if t.Failed() {
				t.Fatalf("seed %d, act %d", seed, act)
			}
		}
	}
}

// What was appended is read till its segment is erased, and what comes later has a greater number.
func TestAppendedIsReadTillErased(t *testing.T) {
	r := rand.New(rand.NewSource(13))
	w := newWorld(t, 6, 3, 100)
	had := map[Addr]frame.Frame{}
	last := uint64(0)
	for i := range 600 {
		f := frame.Frame{Kind: byte(1 + r.Intn(255)), Seq: w.l.Seq(), Text: sample(r.Intn(230), i)}
		if f.Seq <= last {
			t.Fatalf("number %d behind %d", f.Seq, last)
		}
		a, e := w.l.Append(f.Kind, f.Text, 0)
		if e == api.ErrFull {
			seg := r.Intn(6)
			w.erased(seg, api.OK)
			for page := range 3 {
				delete(had, Addr{seg, page})
			}
			continue
		}
		wantErr(t, e, api.OK)
		if _, twice := had[a]; twice {
			t.Fatalf("%v was appended twice", a)
		}
		had[a], last = f, f.Seq
		for at, f := range had {
			w.has(at, f)
		}
	}
}

// A log that is mounted anew tells the same frames, and goes on behind the greatest number.
func TestMountedAnewTellsTheSame(t *testing.T) {
	w := newWorld(t, 5, 4, 9, 2)
	for i := range 14 {
		if i%5 == 4 {
			w.p.Fuse(1, 40*i, 'j')
		}
		w.l.Append(byte(1+i%3), sample(i, i), 0)
		w.p.On()
	}
	w.erased(1, api.OK)
	w.erased(2, api.ErrWorn)
	old := w.l
	w.mount()
	for kind := range 256 {
		w.all(byte(kind), old.All(byte(kind))...)
	}
	for seg := range 5 {
		for page := range 4 {
			f, e := old.Read(Addr{seg, page})
			if g, e2 := w.l.Read(Addr{seg, page}); f != g || e != e2 {
				t.Errorf("page %d of %d is %v, %d, was %v, %d", page, seg, g, e2, f, e)
			}
		}
	}
	w.seq(old.Seq())
	w.retired()
	w.open(-1)
	w.used(0, 2, 3)
}

// Wherever the power goes, what was appended ahead is read, and the one that was cut is torn or there whole.
func TestPowerGoesInAnyAppend(t *testing.T) {
	for at := 1; at <= 6; at++ {
		for _, keep := range []int{0, 1, 128, 255, 256} {
			w := newWorld(t, 3, 2, 9)
			w.p.Fuse(at, keep, 'j')
			for i := range at {
				a, e := w.l.Append(1, sample(9, i), 0)
				if (e == api.OK) != (i < at-1) || e == api.OK && a != (Addr{i / 2, i % 2}) {
					t.Fatalf("Append %d of %d is %v, %d", i, at, a, e)
				}
			}
			w.p.On()
			w.mount()
			for i := range at - 1 {
				w.has(Addr{i / 2, i % 2}, frame.Frame{Kind: 1, Seq: uint64(i + 1), Text: sample(9, i)})
			}
			cut := Addr{(at - 1) / 2, (at - 1) % 2}
			if keep < 256 {
				w.hasNot(cut, api.ErrTorn)
				w.seq(uint64(at))
				continue
			}
			w.has(cut, frame.Frame{Kind: 1, Seq: uint64(at), Text: sample(9, at-1)})
			w.seq(uint64(at + 1))
		}
	}
}
