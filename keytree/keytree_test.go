package keytree

import (
	"fmt"
	"maps"
	"math"
	"math/rand"
	"slices"
	"strings"
	"testing"

	"oblivion/api"
	"oblivion/box"
	"oblivion/draw"
	"oblivion/nand"
	"oblivion/node"
	"oblivion/seglog"
)

// world is a chip, its power, a log of it, and draws.
type world struct {
	t *testing.T
	p *nand.Power
	c *nand.Chip
	l *seglog.Log
	d *draw.Draws
}

func newWorld(t *testing.T, segs, pages, draws int) *world {
	t.Helper()
	p := nand.NewPower()
	w := &world{t: t, p: p, c: nand.New(p, segs, pages, 9, nil), d: draw.New(draw.From(15, draws))}
	w.mount()
	return w
}

func (w *world) mount() {
	w.t.Helper()
	l, e := seglog.Mount(w.c)
	mustOK(w.t, e)
	w.l = l
}

// grown applies changes, which must go well, with reserve 0.
func (w *world) grown(root node.Child, changes ...Entry) node.Child {
	w.t.Helper()
	r, e := Apply(w.l, w.d, root, changes, 0)
	mustOK(w.t, e)
	return r
}

// notApplied wants the error, so many draws, and so many pages programmed.
func (w *world) notApplied(root node.Child, changes []Entry, reserve int, want api.Errno, draws, pages int) {
	w.t.Helper()
	used, programs := len(w.d.Used()), w.programs()
	if r, e := Apply(w.l, w.d, root, changes, reserve); r != (node.Child{}) || e != want {
		w.t.Errorf("Apply is %v, %d, want error %d", r, e, want)
	}
	w.spent(used, draws, programs, pages)
}

func (w *world) spent(used, draws, programs, pages int) {
	w.t.Helper()
	if n := len(w.d.Used()) - used; n != draws {
		w.t.Errorf("%d keys were drawn, want %d", n, draws)
	}
	if n := w.programs() - programs; n != pages {
		w.t.Errorf("%d pages were programmed, want %d", n, pages)
	}
}

func (w *world) programs() int {
	n, _ := w.c.Counts()
	return n
}

// tells holds all that the calls tell of a tree against what it is to have.
func (w *world) tells(root node.Child, want ...Entry) {
	w.t.Helper()
	if all, e := All(w.l, root); !slices.Equal(all, want) || e != api.OK {
		w.t.Errorf("All is %v, %d, want %v", all, e, want)
	}
	at := map[int]node.Child{}
	for _, x := range want {
		at[x.Id] = x.C
	}
	pages, _ := Pages(w.l, root)
	for id := range 256 {
		c, e := Get(w.l, root, id)
		way, wayE := Way(w.l, root, id)
		has, is := at[id]
		switch {
		case is && (c != has || e != api.OK):
			w.t.Errorf("Get of %d is %v, %d, want %v", id, c, e, has)
		case is && (len(way) != 4 || wayE != api.OK || way[0] != addr(root) || !isWithin(way, pages)):
			w.t.Errorf("Way of %d is %v, %d, of %v", id, way, wayE, pages)
		case !is && (c != node.Child{} || e != api.ErrNone || way != nil || wayE != api.ErrNone):
			w.t.Errorf("Get of %d is %v, %d, Way is %v, %d, want error 3", id, c, e, way, wayE)
		}
	}
}

func (w *world) pages(root node.Child, want ...seglog.Addr) {
	w.t.Helper()
	if got, e := Pages(w.l, root); !slices.Equal(got, want) || e != api.OK {
		w.t.Errorf("Pages is %v, %d, want %v", got, e, want)
	}
}

func (w *world) way(root node.Child, id int, want ...seglog.Addr) {
	w.t.Helper()
	if got, e := Way(w.l, root, id); !slices.Equal(got, want) || e != api.OK {
		w.t.Errorf("Way of %d is %v, %d, want %v", id, got, e, want)
	}
}

func (w *world) hasNot(root node.Child, id int, want api.Errno) {
	w.t.Helper()
	if c, e := Get(w.l, root, id); c != (node.Child{}) || e != want {
		w.t.Errorf("Get of %d is %v, %d, want error %d", id, c, e, want)
	}
	if way, e := Way(w.l, root, id); way != nil || e != want {
		w.t.Errorf("Way of %d is %v, %d, want error %d", id, way, e, want)
	}
}

// notGoneThrough wants that error of the calls that go through the whole tree.
func (w *world) notGoneThrough(root node.Child, want api.Errno) {
	w.t.Helper()
	if all, e := All(w.l, root); all != nil || e != want {
		w.t.Errorf("All is %v, %d, want error %d", all, e, want)
	}
	if pages, e := Pages(w.l, root); pages != nil || e != want {
		w.t.Errorf("Pages is %v, %d, want error %d", pages, e, want)
	}
}

// fails wants that error of all calls that load the root.
func (w *world) fails(root node.Child, want api.Errno) {
	w.t.Helper()
	for _, id := range []int{0, 5, 27, 255} {
		w.hasNot(root, id, want)
		w.notApplied(root, []Entry{entry(id, 1)}, 0, want, 0, 0)
		w.notApplied(root, []Entry{{Id: id}}, 0, want, 0, 0)
	}
	w.notGoneThrough(root, want)
}

// put appends a node by hand, with any kinds, and tells the child that leads to it.
func (w *world) put(n node.Node, frameKind, boxKind byte, key api.Key) node.Child {
	w.t.Helper()
	text, e := node.Encode(n)
	mustOK(w.t, e)
	return w.putText(text, frameKind, boxKind, key)
}

func (w *world) putText(text string, frameKind, boxKind byte, key api.Key) node.Child {
	w.t.Helper()
	a, e := w.l.Append(frameKind, box.Seal(key, 77, boxKind, text), 0)
	mustOK(w.t, e)
	return node.Child{Has: true, Seg: a.Seg, Page: a.Page, Key: key}
}

// above puts nodes, each with the one below as its child at a digit, the last digit first.
func (w *world) above(c node.Child, digits ...int) node.Child {
	w.t.Helper()
	for i, digit := range digits {
		c = w.put(with(node.Node{}, digit, c), 2, 2, key(100+i))
	}
	return c
}

// node tells the node of a child by hand.
func (w *world) node(c node.Child) node.Node {
	w.t.Helper()
	f, e := w.l.Read(addr(c))
	mustOK(w.t, e)
	text, nonce, e := box.Open(c.Key, 2, f.Text)
	mustOK(w.t, e)
	if f.Kind != 2 || nonce != f.Seq {
		w.t.Errorf("frame of kind %d, number %d, nonce %d", f.Kind, f.Seq, nonce)
	}
	n, e := node.Decode(text)
	mustOK(w.t, e)
	return n
}

func mustOK(t *testing.T, e api.Errno) {
	t.Helper()
	if e != api.OK {
		t.Fatalf("error %d", e)
	}
}

func with(n node.Node, i int, c node.Child) node.Node {
	n.C[i] = c
	return n
}

func key(from int) api.Key {
	var k api.Key
	for i := range k {
		k[i] = byte(from + 7*i)
	}
	return k
}

func entry(id int, version uint64) Entry {
	return Entry{id, node.Child{Has: true, Seg: id % 64, Page: id % 16, Key: key(id), Expiry: uint64(id) << 40, Version: version}}
}

func entries(ids ...int) []Entry {
	var all []Entry
	for _, id := range ids {
		all = append(all, entry(id, 1))
	}
	return all
}

func gone(ids ...int) []Entry {
	var all []Entry
	for _, id := range ids {
		all = append(all, Entry{Id: id})
	}
	return all
}

func everyId() []int {
	var ids []int
	for id := range 256 {
		ids = append(ids, id)
	}
	return ids
}

func addr(c node.Child) seglog.Addr { return seglog.Addr{Seg: c.Seg, Page: c.Page} }

func isWithin(some, all []seglog.Addr) bool {
	for _, a := range some {
		if !slices.Contains(all, a) {
			return false
		}
	}
	return true
}

// noIds are numbers of no record.
func noIds() []int {
	return []int{-1, -2, -255, -256, math.MinInt, math.MinInt + 1, 256, 257, 511, 512, 1000, 1 << 32, math.MaxInt}
}

// emptyRoots are not there, whatever else they have.
func emptyRoots() []node.Child {
	return []node.Child{{}, {Seg: 1}, {Seg: -1, Page: 99}, {Key: key(1)}, {Expiry: 1, Version: 2}}
}

func TestErrors(t *testing.T) {
	if api.ErrArg != 1 || api.ErrNone != 3 || api.ErrDry != 70 || api.ErrLost != 150 || api.ErrFull != 2 || api.ErrOff != 4 {
		t.Error("other numbers")
	}
	if Kind != 2 {
		t.Error("another kind")
	}
}

// P15.1

func TestGetOfAnEmptyTree(t *testing.T) {
	w := newWorld(t, 2, 2, 2)
	for _, up := range []bool{true, false} {
		if !up {
			w.p.Cut()
		}
		for _, root := range emptyRoots() {
			w.tells(root)
			w.pages(root)
			for _, id := range noIds() {
				w.hasNot(root, id, api.ErrArg)
			}
		}
	}
}

func TestGetOfNoId(t *testing.T) {
	w := newWorld(t, 9, 4, 9)
	r := w.grown(node.Child{}, entries(0, 255)...)
	lost := r
	lost.Key[0]++
	for _, id := range noIds() {
		w.hasNot(r, id, api.ErrArg)
		w.hasNot(lost, id, api.ErrArg)
	}
	w.p.Cut()
	w.hasNot(r, -1, api.ErrArg)
	w.hasNot(r, 256, api.ErrArg)
	w.hasNot(r, 255, api.ErrOff)
}

func TestGetOfOneId(t *testing.T) {
	for _, id := range []int{0, 1, 3, 4, 15, 16, 27, 63, 64, 128, 192, 228, 254, 255} {
		w := newWorld(t, 2, 4, 4)
		r := w.grown(node.Child{}, entry(id, 3))
		w.tells(r, entry(id, 3))
		// The leaf was appended first, the root last.
		w.pages(r, seglog.Addr{Seg: 0, Page: 3}, seglog.Addr{Seg: 0, Page: 2}, seglog.Addr{Seg: 0, Page: 1}, seglog.Addr{Seg: 0, Page: 0})
		w.way(r, id, seglog.Addr{Seg: 0, Page: 3}, seglog.Addr{Seg: 0, Page: 2}, seglog.Addr{Seg: 0, Page: 1}, seglog.Addr{Seg: 0, Page: 0})
	}
}

// A tree that is put by hand is got by its digits, level by level.
func TestGetGoesByDigits(t *testing.T) {
	w := newWorld(t, 4, 4, 0)
	leaf := node.Node{Leaf: true, C: [4]node.Child{{}, entry(1, 1).C, {}, entry(3, 1).C}}
	r := w.above(w.put(leaf, 2, 2, key(9)), 2, 0, 3)
	w.tells(r, Entry{201, entry(1, 1).C}, Entry{203, entry(3, 1).C})
	w.way(r, 203, seglog.Addr{Seg: 0, Page: 3}, seglog.Addr{Seg: 0, Page: 2}, seglog.Addr{Seg: 0, Page: 1}, seglog.Addr{Seg: 0, Page: 0})
}

// What a root has beside where it is, and its key, is not asked.
func TestRootWithExpiry(t *testing.T) {
	w := newWorld(t, 4, 4, 9)
	r := w.grown(node.Child{}, entries(9)...)
	r.Expiry, r.Version = 1, math.MaxUint64
	w.tells(r, entries(9)...)
}

func TestGetWithoutPower(t *testing.T) {
	w := newWorld(t, 4, 4, 9)
	r := w.grown(node.Child{}, entries(5)...)
	w.p.Cut()
	w.fails(r, api.ErrOff)
	lost := r
	lost.Page = 99
	w.fails(lost, api.ErrOff)
	w.p.On()
	w.tells(r, entries(5)...)
}

func TestRootOfAnotherKey(t *testing.T) {
	w := newWorld(t, 4, 4, 9)
	r := w.grown(node.Child{}, entries(5)...)
	for i := range r.Key {
		for bit := range 8 {
			lost := r
			lost.Key[i] ^= 1 << bit
			w.hasNot(lost, 5, api.ErrLost)
		}
	}
	r.Key = api.Key{}
	w.fails(r, api.ErrLost)
}

func TestRootOfAnotherPage(t *testing.T) {
	w := newWorld(t, 4, 4, 9)
	r := w.grown(node.Child{}, entries(5)...)
	s := w.grown(r, entries(6)...)
	for seg := -1; seg <= 4; seg++ {
		for page := -1; page <= 4; page++ {
			lost := r
			lost.Seg, lost.Page = seg, page
			if lost != r {
				w.fails(lost, api.ErrLost)
			}
		}
	}
	for _, n := range []int{math.MinInt, -16, 16, 64, 256, 1 << 32, math.MaxInt} {
		lost := r
		lost.Seg = n
		w.fails(lost, api.ErrLost)
		lost = r
		lost.Page = n
		w.fails(lost, api.ErrLost)
	}
	w.tells(s, entries(5, 6)...)
}

func TestRootThatIsErased(t *testing.T) {
	w := newWorld(t, 4, 4, 9)
	r := w.grown(node.Child{}, entries(5)...)
	mustOK(t, w.l.Erase(0))
	w.fails(r, api.ErrLost)
	w.putText("other", 2, 2, key(1))
	w.fails(r, api.ErrLost)
}

func TestRootThatIsTorn(t *testing.T) {
	for _, keep := range []int{0, 50, 255} {
		w := newWorld(t, 4, 4, 9)
		text, _ := node.Encode(with(node.Node{}, 0, node.Child{Has: true}))
		w.p.Fuse(1, keep, 'x')
		w.l.Append(2, box.Seal(key(1), 1, 2, text), 0)
		w.p.On()
		w.fails(node.Child{Has: true, Key: key(1)}, api.ErrLost)
	}
}

// Both the frame and the box are of the kind.
func TestRootOfAnotherKind(t *testing.T) {
	w := newWorld(t, 64, 16, 9)
	leaf := w.put(with(node.Node{Leaf: true}, 1, entry(1, 1).C), 2, 2, key(9))
	inner := w.put(with(node.Node{}, 1, leaf), 2, 2, key(8))
	inner = w.put(with(node.Node{}, 0, inner), 2, 2, key(7))
	root := with(node.Node{}, 0, inner)
	for kind := 1; kind < 256; kind += 2 {
		w.hasNot(w.put(root, byte(kind), 2, key(6)), 5, api.ErrLost)
		w.hasNot(w.put(root, 2, byte(kind), key(6)), 5, api.ErrLost)
		w.hasNot(w.put(root, byte(kind), byte(kind), key(6)), 5, api.ErrLost)
	}
	w.fails(w.put(root, 1, 2, key(6)), api.ErrLost)
	w.fails(w.put(root, 2, 1, key(6)), api.ErrLost)
	w.fails(w.put(root, 2, 0, key(6)), api.ErrLost)
	w.tells(w.put(root, 2, 2, key(6)), Entry{5, entry(1, 1).C})
}

// A frame whose text is no box, or whose box has no node.
func TestRootThatIsNoNode(t *testing.T) {
	w := newWorld(t, 64, 16, 9)
	whole, _ := node.Encode(with(node.Node{}, 2, node.Child{Has: true, Seg: 1, Key: key(3)}))
	for n := range len(whole) {
		w.hasNot(w.putText(whole[:n], 2, 2, key(1)), 3, api.ErrLost)
	}
	for _, text := range []string{"", whole[:21], whole + "\x00", "\x02" + whole[1:], "\x00\x01\x40" + strings.Repeat("\x00", 20)} {
		w.fails(w.putText(text, 2, 2, key(1)), api.ErrLost)
	}
	for _, text := range []string{"", "x", strings.Repeat("x", 23), strings.Repeat("x", 24), strings.Repeat("x", 229)} {
		a, e := w.l.Append(2, text, 0)
		mustOK(t, e)
		w.fails(node.Child{Has: true, Seg: a.Seg, Page: a.Page, Key: key(1)}, api.ErrLost)
	}
}

// A node is a leaf at level 3, and there alone.
func TestLeafAtAnotherLevel(t *testing.T) {
	for level := range 4 {
		w := newWorld(t, 9, 4, 9)
		n := with(node.Node{Leaf: level != 3}, 1, node.Child{Has: true, Seg: 3, Key: key(2)})
		r := w.above(w.put(n, 2, 2, key(9)), slices.Repeat([]int{1}, level)...)
		id := 85 // of the digits 1, 1, 1, 1
		w.hasNot(r, id, api.ErrLost)
		w.notGoneThrough(r, api.ErrLost)
		w.notApplied(r, entries(id), 0, api.ErrLost, 0, 0)
		// Ids that do not lead there are not touched by it.
		if level > 0 {
			w.hasNot(r, 0, api.ErrNone)
			w.hasNot(r, 255, api.ErrNone)
		}
	}
	w := newWorld(t, 9, 4, 9)
	r := w.above(w.put(with(node.Node{Leaf: true}, 1, entry(85, 1).C), 2, 2, key(9)), 1, 1, 1)
	w.tells(r, entry(85, 1))
}

// A node without children is a node as others are.
func TestNodeWithoutChildren(t *testing.T) {
	for level := range 4 {
		w := newWorld(t, 9, 4, 9)
		r := w.above(w.put(node.Node{Leaf: level == 3}, 2, 2, key(9)), slices.Repeat([]int{1}, level)...)
		w.tells(r)
		if pages, e := Pages(w.l, r); len(pages) != level+1 || e != api.OK {
			t.Errorf("Pages is %v, %d", pages, e)
		}
		if s := w.grown(r, gone(85)...); s != (node.Child{}) {
			t.Errorf("there is a child %v of nodes without children", s)
		}
		w.tells(w.grown(r, entries(85)...), entries(85)...)
	}
}

// What is lost is lost for those that lead there alone.
func TestLostOnTheWay(t *testing.T) {
	for level := 1; level < 4; level++ {
		w := newWorld(t, 30, 1, 30)
		r := w.grown(node.Child{}, entries(85, 86, 90, 106, 170)...)
		way, e := Way(w.l, r, 85)
		mustOK(t, e)
		mustOK(t, w.l.Erase(way[level].Seg))
		w.hasNot(r, 85, api.ErrLost)
		w.notGoneThrough(r, api.ErrLost)
		for at, id := range []int{0, 170, 106, 90, 86} {
			c, e := Get(w.l, r, id)
			switch {
			case id == 0 && e != api.ErrNone, at > level && e != api.ErrLost, id > 0 && at <= level && (c != entry(id, 1).C || e != api.OK):
				t.Errorf("level %d: Get of %d is %v, %d", level, id, c, e)
			}
		}
	}
}

// P15.2

func TestChangesThatMayNotBe(t *testing.T) {
	w := newWorld(t, 9, 4, 30)
	r := w.grown(node.Child{}, entries(5)...)
	lost := r
	lost.Key[0]++
	lists := [][]Entry{entries(5, 5), entries(5, 4), entries(0, 0), entries(255, 0), entries(1, 2, 2), entries(1, 3, 2, 4), entries(2, 1, 3), gone(7, 7), gone(8, 7), {entry(7, 1), {Id: 7}}, {{Id: 7}, entry(7, 1)}}
	for _, id := range noIds() {
		lists = append(lists, entries(id), gone(id), []Entry{{Id: id, C: node.Child{Seg: 1}}})
		if id > 0 {
			lists = append(lists, entries(1, id))
		} else {
			lists = append(lists, entries(id, 1))
		}
	}
	for _, c := range []node.Child{{Seg: 1}, {Seg: -1}, {Page: 1}, {Key: key(1)}, {Expiry: 1}, {Version: 1},
		{Has: true, Seg: 64}, {Has: true, Seg: -1}, {Has: true, Page: 16}, {Has: true, Page: -1}, {Has: true, Seg: math.MaxInt}, {Has: true, Page: math.MinInt}} {
		lists = append(lists, []Entry{{5, c}}, []Entry{entry(4, 1), {5, c}}, []Entry{{5, c}, entry(6, 1)})
	}
	for i, list := range lists {
		for _, root := range []node.Child{{}, r, lost, {Has: true, Seg: -1}} {
			w.notApplied(root, list, 0, api.ErrArg, 0, 0)
			w.notApplied(root, list, 99, api.ErrArg, 0, 0)
		}
		if t.Failed() {
			t.Fatal(i, list)
		}
	}
	w.p.Cut()
	w.notApplied(r, lists[0], 0, api.ErrArg, 0, 0)
	w.p.On()
	w.tells(r, entries(5)...)
}

func TestChangesThatMayBe(t *testing.T) {
	for _, c := range []node.Child{{Has: true}, {Has: true, Seg: 63, Page: 15}, {Has: true, Expiry: 1}, {Has: true, Version: 1}, {Has: true, Seg: 9, Key: key(1), Expiry: math.MaxUint64, Version: math.MaxUint64}} {
		for _, id := range []int{0, 100, 255} {
			w := newWorld(t, 2, 4, 4)
			w.tells(w.grown(node.Child{}, Entry{id, c}), Entry{id, c})
		}
	}
}

// Without changes nothing is asked, whatever the root is.
func TestNoChanges(t *testing.T) {
	w := newWorld(t, 9, 4, 30)
	r := w.grown(node.Child{}, entries(5)...)
	roots := append(emptyRoots(), r, node.Child{Has: true, Seg: -1, Page: 99, Expiry: 3}, node.Child{Has: true, Key: key(1)})
	for _, up := range []bool{true, false} {
		if !up {
			w.p.Cut()
		}
		for _, root := range roots {
			for _, list := range [][]Entry{nil, {}} {
				if got, e := Apply(w.l, w.d, root, list, 99); got != root || e != api.OK {
					t.Errorf("Apply is %v, %d, want %v", got, e, root)
				}
			}
		}
	}
	w.spent(4, 0, 4, 0)
}

// The nodes of a tree of two Ids are appended each behind its children, children by their digits; Pages has each ahead of them.
func TestTwoIds(t *testing.T) {
	for _, x := range []struct {
		a, b  int
		order []int // of the pages, by when they were appended
	}{
		{85, 86, []int{3, 2, 1, 0}},
		{84, 87, []int{3, 2, 1, 0}},
		{85, 89, []int{4, 3, 2, 0, 1}},
		{85, 101, []int{5, 4, 1, 0, 3, 2}},
		{85, 149, []int{6, 2, 1, 0, 5, 4, 3}},
		{0, 255, []int{6, 2, 1, 0, 5, 4, 3}},
	} {
		w := newWorld(t, 1, 8, 7)
		r := w.grown(node.Child{}, entries(x.a, x.b)...)
		w.spent(0, len(x.order), 0, len(x.order))
		w.tells(r, entries(x.a, x.b)...)
		var want []seglog.Addr
		for _, at := range x.order {
			want = append(want, seglog.Addr{Seg: 0, Page: at})
		}
		w.pages(r, want...)
	}
}

func TestAllIds(t *testing.T) {
	w := newWorld(t, 64, 16, 300)
	r := w.grown(node.Child{}, entries(everyId()...)...)
	w.spent(0, 85, 0, 85)
	w.tells(r, entries(everyId()...)...)
	pages, e := Pages(w.l, r)
	if len(pages) != 85 || e != api.OK {
		t.Fatalf("%d Pages, %d", len(pages), e)
	}
	s := w.grown(r, entry(0, 2), entry(255, 2))
	w.spent(85, 7, 85, 7)
	want := entries(everyId()...)
	want[0], want[255] = entry(0, 2), entry(255, 2)
	w.tells(s, want...)
	w.tells(r, entries(everyId()...)...)
	if none := w.grown(s, gone(everyId()...)...); none != (node.Child{}) {
		t.Errorf("all went, and there is %v", none)
	}
	w.spent(92, 0, 92, 0)
	w.tells(s, want...)
	var most []int
	for id := range 255 {
		most = append(most, id)
	}
	w.tells(w.grown(s, gone(most...)...), entry(255, 2))
	w.spent(92, 4, 92, 4)
}

// An Id that goes, and was not there, lets the nodes that lead there be made anew, but makes no new ones.
func TestGoneThatWasNotThere(t *testing.T) {
	w := newWorld(t, 9, 8, 60)
	for _, list := range [][]Entry{gone(0), gone(0, 255), gone(everyId()...)} {
		if r := w.grown(node.Child{}, list...); r != (node.Child{}) {
			t.Errorf("there is %v", r)
		}
	}
	w.spent(0, 0, 0, 0)
	r := w.grown(node.Child{}, entries(85)...)
	for _, x := range []struct{ id, nodes int }{{255, 1}, {112, 2}, {91, 3}, {87, 4}} {
		used := len(w.d.Used())
		s := w.grown(r, gone(x.id)...)
		w.spent(used, x.nodes, used, x.nodes)
		w.tells(s, entries(85)...)
		if s == r {
			t.Error("the root is the old one")
		}
	}
}

func TestGoneOnes(t *testing.T) {
	w := newWorld(t, 9, 16, 99)
	r := w.grown(node.Child{}, entries(0, 1, 4, 16, 64, 255)...)
	for _, x := range []struct {
		list  []Entry
		nodes int
		left  []Entry
	}{
		{gone(255), 1, entries(0, 1, 4, 16, 64)},
		{gone(64), 1, entries(0, 1, 4, 16, 255)},
		{gone(16), 2, entries(0, 1, 4, 64, 255)},
		{gone(4), 3, entries(0, 1, 16, 64, 255)},
		{gone(1), 4, entries(0, 4, 16, 64, 255)},
		{gone(0, 1), 3, entries(4, 16, 64, 255)},
		{gone(0, 1, 4, 16), 1, entries(64, 255)},
		{gone(0, 1, 4, 16, 64, 255), 0, nil},
		{[]Entry{{Id: 0}, entry(1, 9), {Id: 64}}, 4, []Entry{entry(1, 9), entry(4, 1), entry(16, 1), entry(255, 1)}},
	} {
		used, programs := len(w.d.Used()), w.programs()
		s := w.grown(r, x.list...)
		w.spent(used, x.nodes, programs, x.nodes)
		w.tells(s, x.left...)
		if s.Has != (x.left != nil) {
			t.Errorf("the root is %v", s)
		}
	}
	w.tells(r, entries(0, 1, 4, 16, 64, 255)...)
}

// The nodes on the way are made anew even by a change that changes nothing; all others stay where they are.
func TestTheSameAgain(t *testing.T) {
	w := newWorld(t, 9, 4, 30)
	r := w.grown(node.Child{}, entries(5, 200)...)
	s := w.grown(r, entries(5)...)
	w.spent(7, 4, 7, 4)
	w.tells(s, entries(5, 200)...)
	was, _ := Way(w.l, r, 200)
	is, _ := Way(w.l, s, 200)
	if was[0] == is[0] || !slices.Equal(was[1:], is[1:]) {
		t.Errorf("Way is %v, was %v", is, was)
	}
}

// Each node has the key that was drawn for it, and its frame and its box have the log's number.
func TestWhatIsAppended(t *testing.T) {
	w := newWorld(t, 9, 4, 30)
	for range 40 {
		w.l.Append(9, "x", 7)
	}
	mustOK(t, w.l.Erase(0))
	seq := w.l.Seq()
	r := w.grown(node.Child{}, entries(85, 86, 149)...)
	if w.l.Seq() != seq+7 {
		t.Errorf("Seq is %d, was %d", w.l.Seq(), seq)
	}
	keys := w.d.Used()
	root := w.node(r)
	one := w.node(w.node(w.node(root.C[1]).C[1]).C[1])
	two := w.node(w.node(w.node(root.C[2]).C[1]).C[1])
	if one != (node.Node{Leaf: true, C: [4]node.Child{{}, entry(85, 1).C, entry(86, 1).C, {}}}) {
		t.Errorf("the first leaf is %v", one)
	}
	if two != (node.Node{Leaf: true, C: [4]node.Child{{}, entry(149, 1).C, {}, {}}}) {
		t.Errorf("the other leaf is %v", two)
	}
	if r.Key != keys[6] || root.C[1].Key != keys[2] || root.C[2].Key != keys[5] || w.node(root.C[1]).C[1].Key != keys[1] {
		t.Error("keys in another order")
	}
	for _, c := range []node.Child{r, root.C[1], root.C[2]} {
		f, e := w.l.Read(addr(c))
		mustOK(t, e)
		text, _ := node.Encode(w.node(c))
		if f.Text != box.Seal(c.Key, f.Seq, 2, text) {
			t.Errorf("the frame of %v is %v", c, f)
		}
	}
}

func TestTooFewDraws(t *testing.T) {
	for draws := range 8 {
		w := newWorld(t, 3, 8, draws)
		if draws < 7 {
			w.notApplied(node.Child{}, entries(0, 255), 0, api.ErrDry, draws, draws)
		} else {
			w.tells(w.grown(node.Child{}, entries(0, 255)...), entries(0, 255)...)
		}
		w.notApplied(node.Child{}, entries(0), 0, api.ErrDry, 0, 0)
		// Nothing is drawn for what has no children.
		if r := w.grown(node.Child{}, gone(0, 255)...); r != (node.Child{}) {
			t.Errorf("there is %v", r)
		}
	}
}

// What was appended ahead of an error stays, and the old tree is as it was.
func TestTooFewDrawsForATree(t *testing.T) {
	w := newWorld(t, 9, 4, 9)
	r := w.grown(node.Child{}, entries(0, 255)...)
	w.notApplied(r, entries(5, 255), 0, api.ErrDry, 2, 2)
	w.tells(r, entries(0, 255)...)
	if got := w.l.All(2); len(got) != 9 {
		t.Errorf("there are %v", got)
	}
	w.tells(w.grown(r, gone(0, 255)...))
}

// A key is drawn ahead of the Append that fails.
func TestNoRoom(t *testing.T) {
	for segs := 1; segs <= 7; segs++ {
		w := newWorld(t, segs, 1, 30)
		if segs < 7 {
			w.notApplied(node.Child{}, entries(0, 255), 0, api.ErrFull, segs+1, segs)
			w.notApplied(node.Child{}, entries(0, 255), 0, api.ErrFull, 1, 0)
			continue
		}
		r := w.grown(node.Child{}, entries(0, 255)...)
		w.notApplied(r, gone(0), 0, api.ErrFull, 1, 0)
		w.notApplied(r, entries(0), 0, api.ErrFull, 1, 0)
		w.tells(r, entries(0, 255)...)
		w.tells(w.grown(r, gone(0, 255)...))
	}
}

func TestReserve(t *testing.T) {
	for _, reserve := range []int{math.MinInt, -1, 0, 1, 2, 3, 4, 5, 64, math.MaxInt} {
		w := newWorld(t, 4, 2, 30)
		room := 8 - 2*min(max(reserve, 0), 4)
		if room < 4 {
			w.notApplied(node.Child{}, entries(9), reserve, api.ErrFull, room+1, room)
			continue
		}
		r, e := Apply(w.l, w.d, node.Child{}, entries(9), reserve)
		mustOK(t, e)
		w.tells(r, entries(9)...)
		if room == 4 {
			w.notApplied(r, entries(9), reserve, api.ErrFull, 1, 0)
		}
	}
}

// Wherever the power goes on the way, nothing of the old tree is gone.
func TestPowerGoesOnTheWay(t *testing.T) {
	for at := 1; at <= 7; at++ {
		for _, keep := range []int{0, 100, 256} {
			w := newWorld(t, 9, 4, 30)
			r := w.grown(node.Child{}, entries(0, 3, 255)...)
			w.p.Fuse(at, keep, 'x')
			w.notApplied(r, entries(0, 255), 0, api.ErrOff, at, at)
			w.fails(r, api.ErrOff)
			w.p.On()
			w.tells(r, entries(0, 3, 255)...)
			w.mount()
			w.tells(r, entries(0, 3, 255)...)
			w.tells(w.grown(r, entry(0, 2), entry(255, 2)), entry(0, 2), entry(3, 1), entry(255, 2))
		}
	}
}

// Of an empty tree nothing is loaded: the Append tells that the power is not up, and what was drawn is.
func TestApplyWithoutPower(t *testing.T) {
	w := newWorld(t, 9, 4, 2)
	w.p.Cut()
	w.notApplied(node.Child{}, entries(0), 9, api.ErrFull, 1, 0)
	w.notApplied(node.Child{}, entries(0), 8, api.ErrOff, 1, 0)
	w.notApplied(node.Child{}, entries(0), 9, api.ErrDry, 0, 0)
	w.tells(w.grown(node.Child{}, gone(0)...))
}

// Children are made by rising digits: those ahead of one that is lost are appended.
func TestLostWhileMaking(t *testing.T) {
	w := newWorld(t, 40, 1, 99)
	r := w.grown(node.Child{}, entries(0, 85, 170, 255)...)
	way, e := Way(w.l, r, 85)
	mustOK(t, e)
	mustOK(t, w.l.Erase(way[2].Seg))
	w.notApplied(r, entries(85), 0, api.ErrLost, 0, 0)
	w.notApplied(r, entries(85, 170, 255), 0, api.ErrLost, 0, 0)
	w.notApplied(r, entries(0, 85, 170), 0, api.ErrLost, 3, 3)
	w.notApplied(r, gone(0, 85, 170), 0, api.ErrLost, 0, 0)
	// The others do not lead there, so that it is not loaded.
	s := w.grown(r, entry(0, 2), entry(255, 2))
	if c, e := Get(w.l, s, 0); c != entry(0, 2).C || e != api.OK {
		t.Errorf("Get is %v, %d", c, e)
	}
	w.hasNot(s, 85, api.ErrLost)
	w.hasNot(s, 64, api.ErrNone)
	w.notGoneThrough(s, api.ErrLost)
	// A root that is lost comes ahead of the draws, these ahead of the log.
	w.d = draw.New(nil)
	r.Key[0]++
	w.notApplied(r, entries(0), 99, api.ErrLost, 0, 0)
	w.notApplied(s, entries(0), 99, api.ErrDry, 0, 0)
	w.d = draw.New(draw.From(1, 1))
	w.notApplied(s, entries(0), 99, api.ErrFull, 1, 0)
}

func TestWhatIsHandedInStays(t *testing.T) {
	w := newWorld(t, 9, 4, 99)
	list := append(entries(0, 1, 85), Entry{Id: 200}, entry(255, 1), entry(7, 7))
	was := slices.Clone(list)
	r := w.grown(node.Child{}, list[:5]...)
	if !slices.Equal(list, was) {
		t.Errorf("the changes are %v", list)
	}
	for i := range list {
		list[i] = Entry{}
	}
	w.tells(r, entries(0, 1, 85, 255)...)
}

// P15.3

func TestAnswersAreNew(t *testing.T) {
	w := newWorld(t, 9, 4, 99)
	r := w.grown(node.Child{}, entries(0, 1, 255)...)
	all, _ := All(w.l, r)
	pages, _ := Pages(w.l, r)
	way, _ := Way(w.l, r, 1)
	wantPages, wantWay := slices.Clone(pages), slices.Clone(way)
	clear(all)
	clear(pages)
	clear(way)
	w.tells(r, entries(0, 1, 255)...)
	w.pages(r, wantPages...)
	w.way(r, 1, wantWay...)
}

func TestTellingIsNoAct(t *testing.T) {
	w := newWorld(t, 9, 4, 99)
	r := w.grown(node.Child{}, entries(0, 1, 255)...)
	seq := w.l.Seq()
	w.p.Fuse(1, 0, 0)
	w.tells(r, entries(0, 1, 255)...)
	w.spent(7, 0, 7, 0)
	if !w.p.Up() || w.l.Seq() != seq {
		t.Error("something was done")
	}
}

// The first one that is lost, or the power, is the answer: nothing is told of the others.
func TestGoneThroughUpToWhatIsLost(t *testing.T) {
	w := newWorld(t, 30, 1, 30)
	r := w.grown(node.Child{}, entries(everyId()[:16]...)...)
	pages, e := Pages(w.l, r)
	mustOK(t, e)
	mustOK(t, w.l.Erase(pages[len(pages)-1].Seg))
	w.notGoneThrough(r, api.ErrLost)
	w.p.Cut()
	w.notGoneThrough(r, api.ErrOff)
}

// P15.4

// forest is what trees are to be, as the chapter's words say it of the digits of all Ids: without a node, or a step down.
type forest struct {
	log   *seglog.Log
	draws *draw.Draws
	power *nand.Power
	chip  *nand.Chip
}

// tree has, by the digits that lead there, each child: that of no digits is the root.
type tree map[string]node.Child

func digitsOf(id int) string {
	digits, _ := node.Path(id)
	return fmt.Sprint(digits[0], digits[1], digits[2], digits[3])
}

func newForest(segs, pages, draws int) *forest {
	p := nand.NewPower()
	f := &forest{power: p, chip: nand.New(p, segs, pages, 9, nil), draws: draw.New(draw.From(15, draws))}
	f.log, _ = seglog.Mount(f.chip)
	return f
}

// touched tells the digits ahead of any change's, in the order in which their nodes are made: a text that is another one's beginning comes behind it.
func touched(changes []Entry) []string {
	set := map[string]bool{}
	for _, x := range changes {
		d := digitsOf(x.Id)
		for _, n := range []int{0, 1, 3, 5} {
			set[d[:n]] = true
		}
	}
	return slices.SortedFunc(maps.Keys(set), func(a, b string) int { return strings.Compare(a+"~", b+"~") })
}

func digitBelow(at string, digit int) string {
	return strings.TrimSpace(at + " " + fmt.Sprint(digit))
}

// apply tells the new tree; if there is an error, none.
func (f *forest) apply(old tree, changes []Entry, reserve int) (tree, api.Errno) {
	if old[""].Has && len(changes) > 0 && !f.power.Up() {
		return nil, api.ErrOff
	}
	next := maps.Clone(old)
	for _, x := range changes {
		next[digitsOf(x.Id)] = x.C
	}
	for _, at := range touched(changes) {
		n := node.Node{Leaf: len(at) == 5}
		for digit := range 4 {
			n.C[digit] = next[digitBelow(at, digit)]
		}
		next[at] = node.Child{}
		if node.Empty(n) {
			continue
		}
		key, e := f.draws.Next()
		if e != api.OK {
			return nil, e
		}
		text, _ := node.Encode(n)
		a, e := f.log.Append(2, box.Seal(key, f.log.Seq(), 2, text), reserve)
		if e != api.OK {
			return nil, e
		}
		next[at] = node.Child{Has: true, Seg: a.Seg, Page: a.Page, Key: key}
	}
	return next, api.OK
}

// entries tells what the tree has, and where its nodes are, in order.
func (tr tree) told() (all []Entry, pages []seglog.Addr) {
	for _, at := range slices.Sorted(maps.Keys(tr)) {
		if tr[at].Has && len(at) < 7 {
			pages = append(pages, addr(tr[at]))
		}
	}
	for id := range 256 {
		if c := tr[digitsOf(id)]; c.Has {
			all = append(all, Entry{id, c})
		}
	}
	return all, pages
}

func (w *world) tellsAs(tr tree) {
	w.t.Helper()
	all, pages := tr.told()
	root := tr[""]
	w.pages(root, pages...)
	if got, e := All(w.l, root); !slices.Equal(got, all) || e != api.OK {
		w.t.Errorf("All is %v, %d, want %v", got, e, all)
	}
	for _, x := range all {
		d := digitsOf(x.Id)
		w.way(root, x.Id, addr(root), addr(tr[d[:1]]), addr(tr[d[:3]]), addr(tr[d[:5]]))
		if c, e := Get(w.l, root, x.Id); c != x.C || e != api.OK {
			w.t.Errorf("Get of %d is %v, %d, want %v", x.Id, c, e, x.C)
		}
	}
}

func anyChanges(r *rand.Rand) []Entry {
	ids := map[int]bool{}
	for range r.Intn(6) {
		ids[r.Intn(256)] = true
		ids[84+r.Intn(8)] = true
	}
	var list []Entry
	for _, id := range slices.Sorted(maps.Keys(ids)) {
		x := entry(id, r.Uint64())
		if r.Intn(3) == 0 {
			x.C = node.Child{}
		}
		list = append(list, x)
	}
	return list
}

// Any changes of any tree, with the power that goes, the draws and the room that end: all trees that ever were are told, and the chips have had the same.
func TestAnyChangesAsThePlainForm(t *testing.T) {
	for seed := range int64(60) {
		r := rand.New(rand.NewSource(seed))
		segs, pages, draws := 1+r.Intn(40), 1+r.Intn(16), r.Intn(400)
		w, f := newWorld(t, segs, pages, draws), newForest(segs, pages, draws)
		trees := []tree{{}}
		for act := range 30 {
			if r.Intn(6) == 0 {
				n, keep := 1+r.Intn(20), r.Intn(270)
				w.p.Fuse(n, keep, 'j')
				f.power.Fuse(n, keep, 'j')
			}
			old, list, reserve := trees[r.Intn(len(trees))], anyChanges(r), r.Intn(3)-1
			want, wantE := f.apply(old, list, reserve)
			root, e := Apply(w.l, w.d, old[""], list, reserve)
			if root != want[""] || e != wantE {
				t.Fatalf("seed %d, act %d: Apply is %v, %d, want %v, %d", seed, act, root, e, want[""], wantE)
			}
			if e == api.OK {
				trees = append(trees, want)
			}
			if e == api.ErrOff {
				w.p.On()
				f.power.On()
			}
		}
		w.p.On()
		for _, tr := range trees {
			w.tellsAs(tr)
		}
		if !slices.Equal(w.c.History(), f.chip.History()) || !slices.Equal(w.d.Used(), f.draws.Used()) || w.l.Seq() != f.log.Seq() {
			t.Errorf("seed %d: other pages, draws or numbers", seed)
		}
		if t.Failed() {
			t.Fatalf("seed %d", seed)
		}
	}
}

// No two nodes have one key, and none is opened by another one's.
func TestEachNodeHasAKeyOfItsOwn(t *testing.T) {
	w := newWorld(t, 64, 16, 300)
	root := node.Child{}
	for id := range 40 {
		root = w.grown(root, entry(6*id, uint64(id)))
	}
	places := w.l.All(2)
	keys := w.d.Used()
	if len(places) != len(keys) || !draw.Distinct(keys) {
		t.Fatalf("%d nodes, %d keys", len(places), len(keys))
	}
	opened := map[api.Key]int{}
	for _, a := range places {
		f, e := w.l.Read(a)
		mustOK(t, e)
		for _, k := range keys {
			if _, _, e := box.Open(k, 2, f.Text); e == api.OK {
				opened[k]++
			}
		}
	}
	for k, n := range opened {
		if n != 1 {
			t.Errorf("%v opens %d nodes", k, n)
		}
	}
	if len(opened) != len(keys) {
		t.Errorf("%d of %d keys open a node", len(opened), len(keys))
	}
}

// A log that is mounted anew has all old trees.
func TestOldRootsBehindAMount(t *testing.T) {
	w := newWorld(t, 20, 8, 99)
	a := w.grown(node.Child{}, entries(0, 27, 255)...)
	b := w.grown(a, Entry{Id: 0}, entry(27, 2))
	c := w.grown(b, gone(27, 255)...)
	w.mount()
	w.tells(a, entries(0, 27, 255)...)
	w.tells(b, entry(27, 2), entry(255, 1))
	w.tells(c)
	w.tells(w.grown(a, entries(28)...), entries(0, 27, 28, 255)...)
}
