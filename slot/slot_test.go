package slot

import (
	"math"
	"slices"
	"testing"

	"oblivion/api"
	"oblivion/nand"
)

// keeps are all kinds of numbers that a fuse is given as keep, and whether what they let be done in part is done: those below 0 are kept as 0.
func keeps() map[int]bool {
	return map[int]bool{
		math.MinInt: false, math.MinInt + 1: false, -3: false, -2: false, -1: false,
		0: false, 1: true, 2: false, 3: true, 4: false, 5: true, 255: true, 256: false, 257: true,
		math.MaxInt32: true, 1 << 32: false, 1<<32 + 1: true, math.MaxInt - 1: false, math.MaxInt: true,
	}
}

// noCells are numbers that no cell has.
func noCells() []int {
	return []int{-1, -2, math.MinInt, math.MinInt + 1, math.MinInt32, 2, 3, 4, 256, 257, math.MaxInt32, 1 << 32, 1<<32 + 1, math.MaxInt - 1, math.MaxInt}
}

func epochs() []uint64 {
	return []uint64{0, 1, 2, 255, 256, 1 << 31, 1 << 32, 1<<32 + 1, math.MaxInt64, 1 << 63, math.MaxUint64 - 1, math.MaxUint64}
}

// keys have their bytes at both ends, so that a key that is cut off shows.
func keys() []api.Key {
	return []api.Key{{}, {1}, {15: 1}, {0xff, 15: 0xff}, api.Key([]byte("0123456789abcdef"))}
}

func newSlot(t *testing.T) (*nand.Power, *Slot) {
	t.Helper()
	p := nand.NewPower()
	s := New(p)
	if s == nil {
		t.Fatal("no slot")
	}
	return p, s
}

func wantErr(t *testing.T, got, want api.Errno) {
	t.Helper()
	if got != want {
		t.Errorf("error %d, want %d", got, want)
	}
}

func wantUp(t *testing.T, p *nand.Power, want bool) {
	t.Helper()
	if p.Up() != want {
		t.Errorf("Up is %v", p.Up())
	}
}

func wantCell(t *testing.T, s *Slot, i int, k api.Key, epoch uint64) {
	t.Helper()
	if gotK, gotEpoch, e := s.Read(i); gotK != k || gotEpoch != epoch || e != api.OK {
		t.Errorf("cell %d has %x, %d, %d, want %x, %d", i, gotK, gotEpoch, e, k, epoch)
	}
}

func wantNoCell(t *testing.T, s *Slot, i int, want api.Errno) {
	t.Helper()
	if k, epoch, e := s.Read(i); k != (api.Key{}) || epoch != 0 || e != want {
		t.Errorf("cell %d has %x, %d, %d, want error %d", i, k, epoch, e, want)
	}
}

func wantNewest(t *testing.T, s *Slot, want int, wantE api.Errno) {
	t.Helper()
	if i, e := s.Newest(); i != want || e != wantE {
		t.Errorf("Newest is %d, %d, want %d, %d", i, e, want, wantE)
	}
}

func wantHolds(t *testing.T, s *Slot, want ...api.Key) {
	t.Helper()
	if got := s.Holds(); !slices.Equal(got, want) {
		t.Errorf("Holds is %x, want %x", got, want)
	}
}

// wantFuseAt counts how many acts are left up to the fuse, and uses it up.
func wantFuseAt(t *testing.T, p *nand.Power, want int) {
	t.Helper()
	for n := 1; n <= want; n++ {
		if may, whole := p.Act(); !may || whole != (n < want) {
			t.Fatalf("act %d of %d is %v, %v", n, want, may, whole)
		}
	}
}

func TestErrors(t *testing.T) {
	if api.ErrArg != 1 || api.ErrOff != 4 || api.ErrUsed != 100 || api.ErrBlank != 110 {
		t.Error("other numbers")
	}
}

// P11.1

func TestNewWithoutPower(t *testing.T) {
	if New(nil) != nil {
		t.Error("a slot without power")
	}
}

func TestNewIsBlank(t *testing.T) {
	_, s := newSlot(t)
	wantNoCell(t, s, 0, api.ErrBlank)
	wantNoCell(t, s, 1, api.ErrBlank)
	wantNewest(t, s, 0, api.ErrBlank)
	wantHolds(t, s)
}

func TestNewOnPowerThatIsOff(t *testing.T) {
	p := nand.NewPower()
	p.Cut()
	s := New(p)
	if s == nil {
		t.Fatal("no slot")
	}
	wantUp(t, p, false)
	wantErr(t, s.Write(0, api.Key{1}, 1), api.ErrOff)
	p.On()
	wantNewest(t, s, 0, api.ErrBlank)
	wantErr(t, s.Write(0, api.Key{1}, 1), api.OK)
	wantCell(t, s, 0, api.Key{1}, 1)
}

func TestNewIsNoAct(t *testing.T) {
	p := nand.NewPower()
	p.Fuse(2, 0, 0)
	New(p)
	wantFuseAt(t, p, 2)
}

func TestSlotsOnOnePower(t *testing.T) {
	p := nand.NewPower()
	a, b := New(p), New(p)
	p.Fuse(3, 1, 0)
	wantErr(t, a.Write(0, api.Key{1}, 1), api.OK)
	wantNewest(t, b, 0, api.ErrBlank)
	wantErr(t, b.Write(0, api.Key{2}, 2), api.OK)
	wantErr(t, a.Write(1, api.Key{3}, 3), api.ErrOff)
	wantErr(t, b.Write(1, api.Key{4}, 4), api.ErrOff)
	wantHolds(t, a, api.Key{1}, api.Key{3})
	wantHolds(t, b, api.Key{2})
	p.On()
	wantErr(t, a.Erase(0), api.OK)
	wantCell(t, b, 0, api.Key{2}, 2)
}

// A chip and a slot go with their power together, and count for one fuse.
func TestWithAChipOnOnePower(t *testing.T) {
	p, s := newSlot(t)
	c := nand.New(p, 1, 2, 1, nil)
	p.Fuse(2, 3, 'j')
	wantErr(t, c.Program(0, 0, "a"), api.OK)
	wantErr(t, s.Write(0, api.Key{1}, 1), api.ErrOff)
	wantErr(t, c.Program(0, 1, "b"), api.ErrOff)
	p.On()
	p.Fuse(2, 0, 'j')
	wantErr(t, s.Erase(0), api.OK)
	wantErr(t, c.Program(0, 1, "b"), api.ErrOff)
	wantErr(t, s.Write(0, api.Key{1}, 1), api.ErrOff)
	wantHolds(t, s)
}

// P11.2, Write

func TestWrite(t *testing.T) {
	for i := range 2 {
		for _, k := range keys() {
			for _, epoch := range epochs() {
				p, s := newSlot(t)
				wantErr(t, s.Write(i, k, epoch), api.OK)
				wantUp(t, p, true)
				wantCell(t, s, i, k, epoch)
				wantNoCell(t, s, 1-i, api.ErrBlank)
				wantHolds(t, s, k)
			}
		}
	}
}

func TestWriteOfBothCells(t *testing.T) {
	for i := range 2 {
		_, s := newSlot(t)
		wantErr(t, s.Write(i, api.Key{1}, 5), api.OK)
		wantErr(t, s.Write(1-i, api.Key{2}, 4), api.OK)
		wantCell(t, s, i, api.Key{1}, 5)
		wantCell(t, s, 1-i, api.Key{2}, 4)
	}
}

// Nothing forbids that both cells have the same.
func TestWriteOfTheSame(t *testing.T) {
	_, s := newSlot(t)
	for i := range 2 {
		wantErr(t, s.Write(i, api.Key{7}, 7), api.OK)
	}
	wantCell(t, s, 0, api.Key{7}, 7)
	wantCell(t, s, 1, api.Key{7}, 7)
	wantHolds(t, s, api.Key{7}, api.Key{7})
}

func TestWriteOfUsed(t *testing.T) {
	for i := range 2 {
		for _, first := range []api.Key{{}, {1}} {
			for _, epoch := range []uint64{0, 5, math.MaxUint64} {
				p, s := newSlot(t)
				wantErr(t, s.Write(i, first, epoch), api.OK)
				p.Fuse(2, 1, 0)
				wantErr(t, s.Write(i, api.Key{2}, 6), api.ErrUsed)
				wantErr(t, s.Write(i, api.Key{}, 0), api.ErrUsed)
				wantErr(t, s.Write(i, first, epoch), api.ErrUsed)
				wantCell(t, s, i, first, epoch)
				wantNoCell(t, s, 1-i, api.ErrBlank)
				wantFuseAt(t, p, 2) // what is refused is no act
			}
		}
	}
}

func TestWriteOfNoCell(t *testing.T) {
	for _, i := range noCells() {
		p, s := newSlot(t)
		p.Fuse(2, 1, 0)
		wantErr(t, s.Write(i, api.Key{1}, 1), api.ErrArg)
		wantHolds(t, s)
		wantFuseAt(t, p, 2)
		p.On()
		for i := range 2 {
			wantErr(t, s.Write(i, api.Key{1}, 1), api.OK)
		}
		wantErr(t, s.Write(i, api.Key{2}, 2), api.ErrArg)
		wantHolds(t, s, api.Key{1}, api.Key{1})
	}
}

func TestWriteWhileThePowerIsOff(t *testing.T) {
	p, s := newSlot(t)
	wantErr(t, s.Write(0, api.Key{1}, 1), api.OK)
	p.Fuse(1, 1, 0)
	p.Cut()
	for _, i := range append(noCells(), 0, 1) {
		wantErr(t, s.Write(i, api.Key{2}, 2), api.ErrOff)
	}
	wantUp(t, p, false)
	wantHolds(t, s, api.Key{1})
	p.On()
	wantCell(t, s, 0, api.Key{1}, 1)
	wantNoCell(t, s, 1, api.ErrBlank)
}

func TestWriteIsOneAct(t *testing.T) {
	p, s := newSlot(t)
	p.Fuse(5, 0, 0)
	wantErr(t, s.Write(0, api.Key{1}, 1), api.OK)
	wantErr(t, s.Write(1, api.Key{1}, 1), api.OK)
	wantFuseAt(t, p, 3)
}

func TestWriteInPart(t *testing.T) {
	for i := range 2 {
		for keep, done := range keeps() {
			for _, k := range keys() {
				p, s := newSlot(t)
				p.Fuse(1, keep, 1)
				wantErr(t, s.Write(i, k, 9), api.ErrOff)
				wantUp(t, p, false)
				if done {
					wantHolds(t, s, k)
				} else {
					wantHolds(t, s)
				}
				wantErr(t, s.Write(1-i, k, 9), api.ErrOff)
				p.On()
				wantNoCell(t, s, 1-i, api.ErrBlank)
				if done {
					wantCell(t, s, i, k, 9)
					wantErr(t, s.Write(i, k, 9), api.ErrUsed)
					continue
				}
				wantNoCell(t, s, i, api.ErrBlank)
				wantErr(t, s.Write(i, k, 9), api.OK)
				wantCell(t, s, i, k, 9)
			}
		}
	}
}

// Another cell stays as it is, when a write is done in part.
func TestWriteInPartBesideAnother(t *testing.T) {
	for i := range 2 {
		for keep, done := range keeps() {
			p, s := newSlot(t)
			wantErr(t, s.Write(1-i, api.Key{1}, 5), api.OK)
			p.Fuse(1, keep, 0)
			wantErr(t, s.Write(i, api.Key{2}, 6), api.ErrOff)
			p.On()
			wantCell(t, s, 1-i, api.Key{1}, 5)
			if done {
				wantCell(t, s, i, api.Key{2}, 6)
				wantNewest(t, s, i, api.OK)
			} else {
				wantNoCell(t, s, i, api.ErrBlank)
				wantNewest(t, s, 1-i, api.OK)
			}
		}
	}
}

// An act that is done whole does not ask for keep, and junk says nothing to a cell.
func TestKeepAndJunkOfOtherActs(t *testing.T) {
	for keep := range keeps() {
		p, s := newSlot(t)
		p.Fuse(3, keep, 1)
		wantErr(t, s.Write(0, api.Key{1}, 1), api.OK)
		wantErr(t, s.Erase(0), api.OK)
		wantHolds(t, s)
		p.On()
		wantErr(t, s.Write(1, api.Key{2}, 2), api.OK)
		wantCell(t, s, 1, api.Key{2}, 2)
		wantErr(t, s.Erase(1), api.OK)
		wantHolds(t, s)
	}
	for junk := range 256 {
		for keep := range 2 {
			p, s := newSlot(t)
			p.Fuse(1, keep, byte(junk))
			wantErr(t, s.Write(0, api.Key{1}, 1), api.ErrOff)
			if len(s.Holds()) != keep {
				t.Errorf("keep %d, junk %d: Holds is %x", keep, junk, s.Holds())
			}
		}
	}
}

// P11.2, Erase

func TestErase(t *testing.T) {
	for i := range 2 {
		for _, k := range keys() {
			p, s := newSlot(t)
			wantErr(t, s.Write(i, k, 3), api.OK)
			wantErr(t, s.Write(1-i, api.Key{9}, 4), api.OK)
			wantErr(t, s.Erase(i), api.OK)
			wantUp(t, p, true)
			wantNoCell(t, s, i, api.ErrBlank)
			wantCell(t, s, 1-i, api.Key{9}, 4)
			wantHolds(t, s, api.Key{9})
			wantErr(t, s.Write(i, k, 3), api.OK)
			wantCell(t, s, i, k, 3)
		}
	}
}

func TestEraseOfBlank(t *testing.T) {
	p, s := newSlot(t)
	p.Fuse(6, 0, 0)
	for range 2 {
		wantErr(t, s.Erase(0), api.OK)
		wantErr(t, s.Erase(1), api.OK)
	}
	wantNewest(t, s, 0, api.ErrBlank)
	wantHolds(t, s)
	wantFuseAt(t, p, 2) // each was an act, also of a blank cell
}

func TestEraseOfBlankInPart(t *testing.T) {
	for i := range 2 {
		for keep := range keeps() {
			p, s := newSlot(t)
			p.Fuse(1, keep, 1)
			wantErr(t, s.Erase(i), api.ErrOff)
			wantUp(t, p, false)
			wantHolds(t, s)
			p.On()
			wantNoCell(t, s, i, api.ErrBlank)
			wantErr(t, s.Write(i, api.Key{1}, 1), api.OK)
		}
	}
}

func TestEraseOfNoCell(t *testing.T) {
	for _, i := range noCells() {
		p, s := newSlot(t)
		wantErr(t, s.Write(0, api.Key{1}, 1), api.OK)
		wantErr(t, s.Write(1, api.Key{2}, 2), api.OK)
		p.Fuse(2, 1, 0)
		wantErr(t, s.Erase(i), api.ErrArg)
		wantHolds(t, s, api.Key{1}, api.Key{2})
		wantFuseAt(t, p, 2)
	}
}

func TestEraseWhileThePowerIsOff(t *testing.T) {
	p, s := newSlot(t)
	wantErr(t, s.Write(0, api.Key{1}, 1), api.OK)
	p.Fuse(1, 1, 0)
	p.Cut()
	for _, i := range append(noCells(), 0, 1) {
		wantErr(t, s.Erase(i), api.ErrOff)
	}
	wantUp(t, p, false)
	wantHolds(t, s, api.Key{1})
	p.On()
	wantCell(t, s, 0, api.Key{1}, 1)
}

func TestEraseInPart(t *testing.T) {
	for i := range 2 {
		for keep, done := range keeps() {
			for _, k := range keys() {
				p, s := newSlot(t)
				wantErr(t, s.Write(i, k, 5), api.OK)
				wantErr(t, s.Write(1-i, api.Key{8}, 6), api.OK)
				p.Fuse(1, keep, 1)
				wantErr(t, s.Erase(i), api.ErrOff)
				wantUp(t, p, false)
				if slices.Contains(s.Holds(), k) == done {
					t.Errorf("keep %d: Holds is %x", keep, s.Holds())
				}
				wantErr(t, s.Erase(i), api.ErrOff)
				p.On()
				wantCell(t, s, 1-i, api.Key{8}, 6)
				if done {
					wantNoCell(t, s, i, api.ErrBlank)
					wantErr(t, s.Write(i, k, 5), api.OK)
					continue
				}
				wantCell(t, s, i, k, 5)
				wantErr(t, s.Erase(i), api.OK)
				wantHolds(t, s, api.Key{8})
			}
		}
	}
}

// P11.3

func TestReadOfNoCell(t *testing.T) {
	_, s := newSlot(t)
	for _, i := range noCells() {
		wantNoCell(t, s, i, api.ErrArg)
	}
	for i := range 2 {
		wantErr(t, s.Write(i, api.Key{1}, 1), api.OK)
	}
	for _, i := range noCells() {
		wantNoCell(t, s, i, api.ErrArg)
	}
}

func TestReadWhileThePowerIsOff(t *testing.T) {
	p, s := newSlot(t)
	wantErr(t, s.Write(1, api.Key{1}, 1), api.OK)
	p.Cut()
	for _, i := range append(noCells(), 0, 1) {
		wantNoCell(t, s, i, api.ErrOff)
	}
	p.On()
	wantCell(t, s, 1, api.Key{1}, 1)
}

func TestNewestOfOne(t *testing.T) {
	for i := range 2 {
		for _, epoch := range epochs() {
			_, s := newSlot(t)
			wantErr(t, s.Write(i, api.Key{1}, epoch), api.OK)
			wantNewest(t, s, i, api.OK)
			wantErr(t, s.Erase(i), api.OK)
			wantNewest(t, s, 0, api.ErrBlank)
		}
	}
}

func TestNewestOfTwo(t *testing.T) {
	for _, first := range epochs() {
		for _, second := range epochs() {
			for i := range 2 { // whichever is written first
				_, s := newSlot(t)
				epoch := [2]uint64{first, second}
				wantErr(t, s.Write(i, api.Key{1}, epoch[i]), api.OK)
				wantErr(t, s.Write(1-i, api.Key{2}, epoch[1-i]), api.OK)
				want := 0
				if second > first {
					want = 1
				}
				wantNewest(t, s, want, api.OK)
			}
		}
	}
}

// A cell that is blank again has no epoch that might be the greater one.
func TestNewestBehindErase(t *testing.T) {
	for i := range 2 {
		_, s := newSlot(t)
		wantErr(t, s.Write(i, api.Key{1}, math.MaxUint64), api.OK)
		wantErr(t, s.Write(1-i, api.Key{2}, 0), api.OK)
		wantNewest(t, s, i, api.OK)
		wantErr(t, s.Erase(i), api.OK)
		wantNewest(t, s, 1-i, api.OK)
	}
}

func TestNewestWhileThePowerIsOff(t *testing.T) {
	p, s := newSlot(t)
	p.Cut()
	wantNewest(t, s, 0, api.ErrOff)
	p.On()
	wantErr(t, s.Write(1, api.Key{1}, 1), api.OK)
	p.Cut()
	wantNewest(t, s, 0, api.ErrOff)
	p.On()
	wantNewest(t, s, 1, api.OK)
}

func TestHoldsIsInOrder(t *testing.T) {
	for i := range 2 {
		p, s := newSlot(t)
		row := []api.Key{{2}, {1}}
		wantErr(t, s.Write(i, row[i], 1), api.OK)
		wantErr(t, s.Write(1-i, row[1-i], 2), api.OK)
		wantHolds(t, s, row...)
		p.Cut()
		wantHolds(t, s, row...)
		p.On()
		wantErr(t, s.Erase(i), api.OK)
		p.Cut()
		wantHolds(t, s, row[1-i])
	}
}

// A key of bytes 0 is a key.
func TestHoldsAKeyOfNothing(t *testing.T) {
	_, s := newSlot(t)
	wantErr(t, s.Write(1, api.Key{}, 0), api.OK)
	wantHolds(t, s, api.Key{})
	wantErr(t, s.Write(0, api.Key{}, 0), api.OK)
	wantHolds(t, s, api.Key{}, api.Key{})
	wantNewest(t, s, 0, api.OK)
}

func TestHoldsIsNewMemory(t *testing.T) {
	_, s := newSlot(t)
	wantErr(t, s.Write(0, api.Key{1}, 1), api.OK)
	wantErr(t, s.Write(1, api.Key{2}, 2), api.OK)
	one, other := s.Holds(), s.Holds()
	clear(one)
	if !slices.Equal(other, []api.Key{{1}, {2}}) {
		t.Error("two answers share memory")
	}
	_ = append(other[:1], api.Key{3})
	wantCell(t, s, 0, api.Key{1}, 1)
	wantCell(t, s, 1, api.Key{2}, 2)
	held := s.Holds()
	wantErr(t, s.Erase(0), api.OK)
	if !slices.Equal(held, []api.Key{{1}, {2}}) {
		t.Error("an answer turned")
	}
}

func TestAskingIsNoAct(t *testing.T) {
	p, s := newSlot(t)
	wantErr(t, s.Write(1, api.Key{1}, 1), api.OK)
	p.Fuse(2, 1, 0)
	for range 3 {
		wantNoCell(t, s, 0, api.ErrBlank)
		wantCell(t, s, 1, api.Key{1}, 1)
		wantNoCell(t, s, 2, api.ErrArg)
		wantNewest(t, s, 1, api.OK)
		wantHolds(t, s, api.Key{1})
	}
	wantFuseAt(t, p, 2)
}

// P11.4, and all of it against a plain form of the chapter's words

// written is what somebody wrote to a cell, by the number of the cell; a blank one is not in the map.
type written struct {
	key   api.Key
	epoch uint64
}

type plainSlot struct {
	up          bool
	acts, fuse  int // the number of acts, and of the one at which the power goes (0: there is none)
	keep        int
	cells       map[int]written
	everWritten map[written]int
}

func (s *plainSlot) act(do func()) api.Errno {
	s.acts++
	if s.acts != s.fuse {
		do()
		return api.OK
	}
	s.up = false
	if s.keep > 0 && s.keep%2 == 1 {
		do()
	}
	return api.ErrOff
}

func (s *plainSlot) write(i int, k api.Key, epoch uint64) api.Errno {
	_, used := s.cells[i]
	switch {
	case !s.up:
		return api.ErrOff
	case i != 0 && i != 1:
		return api.ErrArg
	case used:
		return api.ErrUsed
	}
	s.everWritten[written{k, epoch}]++
	return s.act(func() { s.cells[i] = written{k, epoch} })
}

func (s *plainSlot) erase(i int) api.Errno {
	switch {
	case !s.up:
		return api.ErrOff
	case i != 0 && i != 1:
		return api.ErrArg
	}
	return s.act(func() { delete(s.cells, i) })
}

func (s *plainSlot) read(i int) (api.Key, uint64, api.Errno) {
	c, has := s.cells[i]
	switch {
	case !s.up:
		return api.Key{}, 0, api.ErrOff
	case i != 0 && i != 1:
		return api.Key{}, 0, api.ErrArg
	case !has:
		return api.Key{}, 0, api.ErrBlank
	}
	return c.key, c.epoch, api.OK
}

func (s *plainSlot) newest() (int, api.Errno) {
	if !s.up {
		return 0, api.ErrOff
	}
	if len(s.cells) == 0 {
		return 0, api.ErrBlank
	}
	best := -1
	for i := range 2 {
		if c, has := s.cells[i]; has && (best < 0 || c.epoch > s.cells[best].epoch) {
			best = i
		}
	}
	return best, api.OK
}

func (s *plainSlot) holds() []api.Key {
	var l []api.Key
	for i := range 2 {
		if c, has := s.cells[i]; has {
			l = append(l, c.key)
		}
	}
	return l
}

// pair is a slot and its plain form, which are driven alike.
type pair struct {
	p     *nand.Power
	s     *Slot
	plain *plainSlot
}

func newPair(t *testing.T) pair {
	t.Helper()
	p, s := newSlot(t)
	return pair{p, s, &plainSlot{up: true, cells: map[int]written{}, everWritten: map[written]int{}}}
}

// picker tells numbers below most, another row of them for each seed.
func picker(seed uint64) func(most int) int {
	return func(most int) int {
		seed = seed*6364136223846793005 + 1442695040888963407
		return int(seed>>33) % most
	}
}

// step does one thing with both, and tells whether they answered alike.
func (x pair) step(next func(int) int) bool {
	i := next(2)
	if next(8) == 0 {
		i = noCells()[next(len(noCells()))]
	}
	switch next(10) {
	case 0:
		n, keep := next(5)-1, next(7)-2
		x.p.Fuse(n, keep, byte(next(256)))
		x.plain.fuse, x.plain.keep = 0, keep
		if n > 0 {
			x.plain.fuse = x.plain.acts + n
		}
	case 1:
		if next(4) == 0 {
			x.p.Cut()
			x.plain.up = false
		}
	case 2:
		x.p.On()
		x.plain.up, x.plain.fuse = true, 0
	case 3, 4, 5:
		return x.s.Erase(i) == x.plain.erase(i)
	default:
		k, epoch := api.Key{byte(next(4)), 15: byte(next(2))}, uint64(next(4))<<next(64)
		return x.s.Write(i, k, epoch) == x.plain.write(i, k, epoch)
	}
	return true
}

// isAlike tells whether both tell the same of all that can be asked.
func (x pair) isAlike() bool {
	i, e := x.s.Newest()
	wantI, wantE := x.plain.newest()
	alike := x.p.Up() == x.plain.up && i == wantI && e == wantE && slices.Equal(x.s.Holds(), x.plain.holds())
	for i := -1; i <= 2; i++ {
		k, epoch, e := x.s.Read(i)
		wantK, wantEpoch, wantE := x.plain.read(i)
		alike = alike && k == wantK && epoch == wantEpoch && e == wantE
	}
	return alike
}

func TestAsThePlainForm(t *testing.T) {
	for seed := range uint64(500) {
		next := picker(seed)
		x := newPair(t)
		for i := range 150 {
			if !x.step(next) || !x.isAlike() {
				t.Fatalf("seed %d: other than the plain form behind act %d", seed, i)
			}
		}
	}
}

// A cell has what was written, key and epoch together, or nothing.
func TestHasWhatWasWritten(t *testing.T) {
	for seed := range uint64(200) {
		next := picker(seed + 1000)
		x := newPair(t)
		for range 150 {
			x.step(next)
			for i := range 2 {
				k, epoch, e := x.s.Read(i)
				if e == api.OK && x.plain.everWritten[written{k, epoch}] == 0 {
					t.Fatalf("seed %d: cell %d has %x, %d, which nobody wrote", seed, i, k, epoch)
				}
			}
		}
	}
}

// What was erased, whole or in part with an odd keep, is in no cell any more: neither in what a slot tells, nor in what it keeps.
func TestGone(t *testing.T) {
	for i := range 2 {
		for _, keep := range []int{1, 2, 3} {
			p, s := newSlot(t)
			wantErr(t, s.Write(i, api.Key{1, 15: 1}, 77), api.OK)
			wantErr(t, s.Write(1-i, api.Key{2}, 78), api.OK)
			if keep%2 == 1 {
				p.Fuse(1, keep, 0)
				wantErr(t, s.Erase(i), api.ErrOff)
			} else {
				wantErr(t, s.Erase(i), api.OK)
			}
			wantHolds(t, s, api.Key{2})
			if s.cells[i] != (cell{}) {
				t.Errorf("cell %d keeps %v", i, s.cells[i])
			}
			p.On()
			wantNoCell(t, s, i, api.ErrBlank)
			wantErr(t, s.Erase(1-i), api.OK)
			if *s != *New(p) {
				t.Errorf("the slot keeps %v", *s)
			}
		}
	}
}

// All rows of acts up to some length, each with the power going at each of them, against the plain form.
func TestShortRows(t *testing.T) {
	for row := range 4 * 4 * 4 * 4 {
		for fuse := range 5 {
			for keep := range 2 {
				x := newPair(t)
				x.p.Fuse(fuse, keep, 0)
				x.plain.fuse, x.plain.keep = fuse, keep
				for n := range 4 {
					what := row >> (2 * n) & 3
					i, k := what&1, api.Key{byte(n + 1)}
					alike := false
					if what < 2 {
						alike = x.s.Write(i, k, uint64(n)) == x.plain.write(i, k, uint64(n))
					} else {
						alike = x.s.Erase(i) == x.plain.erase(i)
					}
					if !alike || !x.isAlike() {
						t.Fatalf("row %d, fuse %d, keep %d: other than the plain form behind act %d", row, fuse, keep, n)
					}
					if !x.p.Up() {
						x.p.On()
						x.plain.up, x.plain.fuse = true, 0
					}
				}
			}
		}
	}
}
