package node

import (
	"encoding/binary"
	"math"
	"math/rand"
	"strings"
	"testing"

	"oblivion/api"
)

// key makes a key in which neighbours differ, so that a shifted or turned one shows.
func key(from int) api.Key {
	var k api.Key
	for i := range k {
		k[i] = byte(from + 7*i)
	}
	return k
}

// inner is a child that may be in any node.
func inner(seg, page, from int) Child {
	return Child{Has: true, Seg: seg, Page: page, Key: key(from)}
}

// outer is a child that may be in a leaf.
func outer(seg, page, from int, expiry, version uint64) Child {
	return Child{Has: true, Seg: seg, Page: page, Key: key(from), Expiry: expiry, Version: version}
}

// innersThatMay are children that may be in any node, with all edges.
func innersThatMay() []Child {
	return []Child{
		{}, {Has: true}, inner(0, 0, 1), inner(63, 15, 2), inner(0, 15, 3), inner(63, 0, 4), inner(1, 2, 5),
		{Has: true, Key: key(6)}, {Has: true, Seg: 63}, {Has: true, Page: 15},
	}
}

// outersThatMay are children that may be in a leaf alone.
func outersThatMay() []Child {
	return []Child{
		{Has: true, Expiry: 1}, {Has: true, Version: 1}, outer(63, 15, 7, 258, 3), outer(5, 6, 8, 0, 1), outer(5, 6, 9, 1, 0),
		outer(0, 0, 10, math.MaxUint64, math.MaxUint64), outer(63, 0, 11, 1<<63, 0x0102030405060708),
	}
}

// childrenThatMayNot be in any node.
func childrenThatMayNot() []Child {
	all := []Child{{Seg: 1}, {Seg: -1}, {Seg: 64}, {Page: 1}, {Page: -1}, {Page: 16}, {Key: key(1)}, {Key: api.Key{15: 1}}, {Expiry: 1}, {Version: 1}}
	for _, n := range []int{-1, 64, 65, 100, 255, 256, 256 + 5, 1 << 32, math.MaxInt, math.MinInt, math.MinInt + 1} {
		all = append(all, inner(n, 0, 2), outer(n, 3, 2, 4, 5))
	}
	for _, n := range []int{-1, 16, 17, 63, 64, 255, 256, 256 + 5, 1 << 32, math.MaxInt, math.MinInt, math.MinInt + 1} {
		all = append(all, inner(0, n, 2), outer(3, n, 2, 4, 5))
	}
	return all
}

// nodesThatMay are some with no child, with one at each place, with two, and with all four.
func nodesThatMay() []Node {
	var all []Node
	for _, leaf := range []bool{false, true} {
		children := innersThatMay()
		if leaf {
			children = append(children, outersThatMay()...)
		}
		for at, c := range children {
			next := children[(at+1)%len(children)]
			for i := range 4 {
				one := Node{Leaf: leaf}
				one.C[i] = c
				two := one
				two.C[(i+1)%4] = next
				all = append(all, one, two)
			}
			all = append(all, Node{Leaf: leaf, C: [4]Child{c, next, next, c}}, Node{Leaf: leaf, C: [4]Child{c, c, c, c}})
		}
	}
	return all
}

// nodesThatMayNot have one child that may not be, by itself and beside others that may.
func nodesThatMayNot() []Node {
	var all []Node
	add := func(leaf bool, c Child) {
		for i := range 4 {
			alone := Node{Leaf: leaf}
			beside := Node{Leaf: leaf, C: [4]Child{inner(1, 1, 1), inner(2, 2, 2), {}, inner(3, 3, 3)}}
			alone.C[i], beside.C[i] = c, c
			all = append(all, alone, beside)
		}
	}
	for _, c := range childrenThatMayNot() {
		add(false, c)
		add(true, c)
	}
	for _, c := range outersThatMay() {
		add(false, c)
	}
	return all
}

// randomNode may be, whatever it is.
func randomNode(r *rand.Rand) Node {
	n := Node{Leaf: r.Intn(2) == 1}
	for i := range n.C {
		if r.Intn(3) == 0 {
			continue
		}
		c := Child{Has: true, Seg: r.Intn(64), Page: r.Intn(16)}
		r.Read(c.Key[:])
		if n.Leaf {
			c.Expiry, c.Version = r.Uint64()>>r.Intn(64), r.Uint64()>>r.Intn(64)
		}
		n.C[i] = c
	}
	return n
}

// plainEncode lays out the bytes of a node that may be, as the chapter's words have it.
func plainEncode(n Node) string {
	var b []byte
	bit := func(set bool) {
		if set {
			b = append(b, 1)
		} else {
			b = append(b, 0)
		}
	}
	bit(n.Leaf)
	for _, c := range n.C {
		bit(c.Has)
		if !c.Has {
			continue
		}
		b = append(b, byte(c.Seg), byte(c.Page))
		b = append(b, c.Key[:]...)
		if n.Leaf {
			b = binary.LittleEndian.AppendUint64(b, c.Expiry)
			b = binary.LittleEndian.AppendUint64(b, c.Version)
		}
	}
	return string(b)
}

// plainFault goes through s byte by byte, as the chapter's words have it, and tells the first error.
func plainFault(s string) api.Errno {
	at := 0
	check := func(bound byte) api.Errno {
		if at >= len(s) {
			return api.ErrShort
		}
		at++
		if s[at-1] >= bound {
			return api.ErrArg
		}
		return api.OK
	}
	if e := check(2); e != api.OK {
		return e
	}
	wide := 16
	if s[0] == 1 {
		wide = 32
	}
	for range 4 {
		if e := check(2); e != api.OK {
			return e
		}
		if s[at-1] == 0 {
			continue
		}
		for _, bound := range []byte{64, 16} {
			if e := check(bound); e != api.OK {
				return e
			}
		}
		if len(s)-at < wide {
			return api.ErrShort
		}
		at += wide
	}
	if at < len(s) {
		return api.ErrMore
	}
	return api.OK
}

func mustEncode(t *testing.T, n Node) string {
	t.Helper()
	s, e := Encode(n)
	if e != api.OK {
		t.Fatalf("Encode of %v: error %d", n, e)
	}
	return s
}

func wantNode(t *testing.T, s string, want Node) {
	t.Helper()
	if n, e := Decode(s); n != want || e != api.OK {
		t.Errorf("Decode of %x is %v, %d, want %v", s, n, e, want)
	}
}

func wantNoNode(t *testing.T, s string, want api.Errno) {
	t.Helper()
	if n, e := Decode(s); n != (Node{}) || e != want {
		t.Errorf("Decode of %x is %v, %d, want error %d", s, n, e, want)
	}
}

func TestErrors(t *testing.T) {
	if api.ErrArg != 1 || api.ErrShort != 10 || api.ErrMore != 12 {
		t.Error("an error has another number than the chapter's")
	}
}

// P14.1

func TestMay(t *testing.T) {
	for _, n := range nodesThatMay() {
		if !May(n) {
			t.Errorf("%v may not be", n)
		}
	}
	for _, n := range nodesThatMayNot() {
		if May(n) {
			t.Errorf("%v may be", n)
		}
	}
}

func TestMayEdges(t *testing.T) {
	for _, leaf := range []bool{false, true} {
		for n := -300; n <= 300; n++ {
			seg := Node{Leaf: leaf, C: [4]Child{2: {Has: true, Seg: n}}}
			if May(seg) != (n >= 0 && n <= 63) {
				t.Errorf("leaf %v, Seg %d: %v", leaf, n, May(seg))
			}
			page := Node{Leaf: leaf, C: [4]Child{2: {Has: true, Page: n}}}
			if May(page) != (n >= 0 && n <= 15) {
				t.Errorf("leaf %v, Page %d: %v", leaf, n, May(page))
			}
		}
	}
}

func TestMayOfWhatLeavesAloneHave(t *testing.T) {
	for _, n := range []uint64{1, 255, 256, 1 << 32, 1 << 63, math.MaxUint64} {
		for i := range 4 {
			for _, c := range []Child{outer(1, 2, 3, n, 0), outer(1, 2, 3, 0, n), outer(1, 2, 3, n, n)} {
				in, of := Node{}, Node{Leaf: true}
				in.C[i], of.C[i] = c, c
				if May(in) || !May(of) {
					t.Errorf("%v: %v in an inner node, %v in a leaf", c, May(in), May(of))
				}
			}
		}
	}
}

func TestEmpty(t *testing.T) {
	for places := range 16 {
		for _, leaf := range []bool{false, true} {
			n := Node{Leaf: leaf}
			for i := range 4 {
				n.C[i].Has = places>>i&1 == 1
			}
			if Empty(n) != (places == 0) {
				t.Errorf("Empty of %v is %v", n, Empty(n))
			}
		}
	}
	// Whether a child is there is for Has alone to tell, also where the node may not be.
	for _, n := range nodesThatMayNot() {
		there := false
		for _, c := range n.C {
			there = there || c.Has
		}
		if Empty(n) == there {
			t.Errorf("Empty of %v is %v", n, Empty(n))
		}
	}
}

// P14.2

func TestEncodeBytes(t *testing.T) {
	const k = "abcdefghijklmnop"
	var of api.Key
	copy(of[:], k)
	for _, x := range []struct {
		n    Node
		want string
	}{
		{Node{}, "\x00\x00\x00\x00\x00"},
		{Node{Leaf: true}, "\x01\x00\x00\x00\x00"},
		{Node{C: [4]Child{{Has: true, Seg: 63, Page: 15, Key: of}}}, "\x00\x01\x3f\x0f" + k + "\x00\x00\x00"},
		{Node{C: [4]Child{3: {Has: true, Seg: 2, Page: 1, Key: of}}}, "\x00\x00\x00\x00\x01\x02\x01" + k},
		{Node{Leaf: true, C: [4]Child{1: {Has: true, Key: of}}}, "\x01\x00\x01\x00\x00" + k + strings.Repeat("\x00", 16) + "\x00\x00"},
		{
			Node{Leaf: true, C: [4]Child{2: {Has: true, Seg: 16, Page: 9, Key: of, Expiry: 0x0102030405060708, Version: 258}}},
			"\x01\x00\x00\x01\x10\x09" + k + "\x08\x07\x06\x05\x04\x03\x02\x01" + "\x02\x01\x00\x00\x00\x00\x00\x00" + "\x00",
		},
	} {
		if s, e := Encode(x.n); s != x.want || e != api.OK {
			t.Errorf("Encode of %v is %x, %d, want %x", x.n, s, e, x.want)
		}
		wantNode(t, x.want, x.n)
	}
}

func TestEncodeLengths(t *testing.T) {
	c := inner(1, 2, 3)
	for places := range 16 {
		in, of, count := Node{}, Node{Leaf: true}, 0
		for i := range 4 {
			if places>>i&1 == 1 {
				in.C[i], of.C[i] = c, c
				count++
			}
		}
		if s := mustEncode(t, in); len(s) != 5+18*count {
			t.Errorf("%d bytes of an inner node with %d children", len(s), count)
		}
		if s := mustEncode(t, of); len(s) != 5+34*count {
			t.Errorf("%d bytes of a leaf with %d children", len(s), count)
		}
	}
}

func TestEncodeAsTheWordsHaveIt(t *testing.T) {
	for _, n := range nodesThatMay() {
		if s := mustEncode(t, n); s != plainEncode(n) {
			t.Errorf("Encode of %v is %x, want %x", n, s, plainEncode(n))
		}
	}
}

func TestEncodeOfWhatMayNotBe(t *testing.T) {
	for _, n := range nodesThatMayNot() {
		if s, e := Encode(n); s != "" || e != api.ErrArg {
			t.Errorf("Encode of %v is %x, %d, want ErrArg", n, s, e)
		}
	}
}

// P14.3

func TestDecodeOfBytesThatEnd(t *testing.T) {
	full := Node{C: [4]Child{inner(63, 15, 1), inner(0, 0, 2), inner(5, 6, 3), inner(63, 0, 4)}}
	leaf := Node{Leaf: true, C: [4]Child{outer(63, 15, 1, 2, 3), outer(0, 0, 2, 0, 0), outer(5, 6, 3, math.MaxUint64, 1), inner(63, 0, 4)}}
	for _, n := range append(nodesThatMay(), full, leaf) {
		s := mustEncode(t, n)
		for end := range len(s) {
			wantNoNode(t, s[:end], api.ErrShort)
		}
	}
}

func TestDecodeOfBytesLeft(t *testing.T) {
	for _, n := range nodesThatMay() {
		s := mustEncode(t, n)
		for _, behind := range []string{"\x00", "\x01", "\xff", "z", s, strings.Repeat("\x00", 3000)} {
			wantNoNode(t, s+behind, api.ErrMore)
		}
	}
}

func TestDecodeOfFlagsThatAreNone(t *testing.T) {
	for b := 2; b < 256; b++ {
		bad := string([]byte{byte(b)})
		// ErrArg comes as soon as the byte is read: whether bytes are missing or left behind it is not asked any more.
		for _, behind := range []string{"", "\x00", "\x00\x00\x00\x00", strings.Repeat("\x00", 300)} {
			wantNoNode(t, bad+behind, api.ErrArg)
			for _, leaf := range []string{"\x00", "\x01"} {
				for none := range 4 {
					wantNoNode(t, leaf+strings.Repeat("\x00", none)+bad+behind, api.ErrArg)
				}
			}
		}
		for _, n := range []Node{{C: [4]Child{inner(1, 2, 3)}}, {Leaf: true, C: [4]Child{outer(1, 2, 3, 4, 5)}}} {
			s := mustEncode(t, n)
			wantNoNode(t, s[:len(s)-3]+bad, api.ErrArg)
			wantNoNode(t, s[:len(s)-1]+bad, api.ErrArg)
		}
	}
}

func TestDecodeOfPlacesThatMayNotBe(t *testing.T) {
	behind := strings.Repeat("\x00", 16+16+3)
	for _, leaf := range []string{"\x00", "\x01"} {
		for none := range 4 {
			ahead := leaf + strings.Repeat("\x00", none) + "\x01"
			for b := range 256 {
				it := string([]byte{byte(b)})
				if b >= 64 {
					wantNoNode(t, ahead+it, api.ErrArg)
					wantNoNode(t, ahead+it+"\x00"+behind, api.ErrArg)
					wantNoNode(t, ahead+it+"\xff", api.ErrArg)
				} else {
					wantNoNode(t, ahead+it, api.ErrShort)
				}
				if b >= 16 {
					wantNoNode(t, ahead+"\x3f"+it, api.ErrArg)
					wantNoNode(t, ahead+"\x3f"+it+behind, api.ErrArg)
				} else {
					wantNoNode(t, ahead+"\x3f"+it, api.ErrShort)
				}
			}
		}
	}
}

func TestDecodeTellsTheFirstError(t *testing.T) {
	k := strings.Repeat("k", 16)
	for _, x := range []struct {
		name, s string
		want    api.Errno
	}{
		{"nothing", "", api.ErrShort},
		{"a leaf's byte that is none, and nothing", "\x02", api.ErrArg},
		{"a Seg ahead of a Page", "\x00\x01\x40\x10", api.ErrArg},
		{"a key that ends, ahead of a flag that is none", "\x00\x01\x00\x00" + k[:15], api.ErrShort},
		{"a flag that is none, ahead of bytes that are missing", "\x00\x01\x00\x00" + k + "\x07", api.ErrArg},
		{"a flag that is none as the last one, ahead of bytes that are left", "\x00\x00\x00\x00\x02\x00", api.ErrArg},
		{"an Expiry that ends", "\x01\x01\x00\x00" + k + "\x00\x00\x00\x00\x00\x00\x00", api.ErrShort},
		{"a Version that ends", "\x01\x01\x00\x00" + k + k[:15], api.ErrShort},
		{"an Expiry where there is none", "\x00\x01\x00\x00" + k + "\x00\x00\x00\x00", api.ErrMore},
	} {
		if n, e := Decode(x.s); n != (Node{}) || e != x.want {
			t.Errorf("%s: %v, %d, want %d", x.name, n, e, x.want)
		}
	}
}

// P14.4

func TestPath(t *testing.T) {
	id := 0
	for a := range 4 {
		for b := range 4 {
			for c := range 4 {
				for d := range 4 {
					if p, e := Path(id); p != [4]int{a, b, c, d} || e != api.OK {
						t.Errorf("Path(%d) is %v, %d", id, p, e)
					}
					id++
				}
			}
		}
	}
	for _, id := range []int{-1, 256, -2, -4, -255, -256, 257, 512, 1 << 32, 1<<32 + 5, math.MaxInt, math.MinInt} {
		if p, e := Path(id); p != [4]int{} || e != api.ErrArg {
			t.Errorf("Path(%d) is %v, %d, want ErrArg", id, p, e)
		}
	}
}

func TestWith(t *testing.T) {
	for _, n := range nodesThatMay() {
		for _, c := range innersThatMay() {
			wantWith(t, n, c, true)
		}
		for _, c := range outersThatMay() {
			wantWith(t, n, c, n.Leaf)
		}
		for _, c := range childrenThatMayNot() {
			wantWith(t, n, c, false)
		}
	}
}

// wantWith lays c at each place of n, which may be.
func wantWith(t *testing.T, n Node, c Child, may bool) {
	t.Helper()
	for i := range 4 {
		want, wantErr := n, api.OK
		want.C[i] = c
		if !may {
			want, wantErr = Node{}, api.ErrArg
		}
		kept := n
		if m, e := With(n, i, c); m != want || e != wantErr {
			t.Errorf("With(%v, %d, %v) is %v, %d, want %v, %d", n, i, c, m, e, want, wantErr)
		}
		if n != kept {
			t.Fatalf("With changed %v", kept)
		}
	}
}

func TestWithExamples(t *testing.T) {
	a, b, late := inner(1, 2, 3), inner(4, 5, 6), outer(7, 8, 9, 10, 11)
	for _, x := range []struct {
		name string
		n    Node
		i    int
		c    Child
		want Node
		e    api.Errno
	}{
		{"the first child", Node{}, 0, a, Node{C: [4]Child{a}}, api.OK},
		{"the last child", Node{}, 3, a, Node{C: [4]Child{3: a}}, api.OK},
		{"one more", Node{C: [4]Child{a}}, 2, b, Node{C: [4]Child{0: a, 2: b}}, api.OK},
		{"another one", Node{C: [4]Child{1: a, 2: b}}, 1, b, Node{C: [4]Child{1: b, 2: b}}, api.OK},
		{"none any more", Node{C: [4]Child{1: a}}, 1, Child{}, Node{}, api.OK},
		{"of a leaf", Node{Leaf: true}, 1, late, Node{Leaf: true, C: [4]Child{1: late}}, api.OK},
		{"of a leaf, and not in one", Node{}, 1, late, Node{}, api.ErrArg},
		{"nothing, but a key", Node{C: [4]Child{a}}, 1, Child{Key: key(1)}, Node{}, api.ErrArg},
		{"a Seg of 64", Node{}, 0, inner(64, 0, 1), Node{}, api.ErrArg},
		{"a Page of 16", Node{}, 0, inner(0, 16, 1), Node{}, api.ErrArg},
	} {
		if n, e := With(x.n, x.i, x.c); n != x.want || e != x.e {
			t.Errorf("%s: %v, %d, want %v, %d", x.name, n, e, x.want, x.e)
		}
	}
}

func TestWithPlacesThatAreNone(t *testing.T) {
	for _, i := range []int{-1, 4, -2, -4, 5, 256, 1 << 32, math.MaxInt, math.MinInt} {
		for _, n := range []Node{{}, {Leaf: true}, {C: [4]Child{inner(1, 2, 3)}}, {C: [4]Child{{Seg: 1}}}} {
			for _, c := range []Child{{}, inner(1, 2, 3), {Seg: 1}} {
				if m, e := With(n, i, c); m != (Node{}) || e != api.ErrArg {
					t.Errorf("With(%v, %d, %v) is %v, %d, want ErrArg", n, i, c, m, e)
				}
			}
		}
	}
}

// What must be able to be is the node that is made: another child that may not be stays one, and the i-th one goes.
func TestWithOfNodesThatMayNotBe(t *testing.T) {
	bad := append(childrenThatMayNot(), outersThatMay()...)
	for _, b := range bad {
		for at := range 4 {
			n := Node{}
			n.C[at] = b
			for i := range 4 {
				for _, c := range []Child{{}, inner(1, 2, 3)} {
					want, wantErr := Node{}, api.ErrArg
					if i == at {
						want.C[i], wantErr = c, api.OK
					}
					if m, e := With(n, i, c); m != want || e != wantErr {
						t.Errorf("With(%v, %d, %v) is %v, %d", n, i, c, m, e)
					}
				}
			}
		}
	}
}

// P14.5

func TestEncodedIsDecoded(t *testing.T) {
	for _, n := range nodesThatMay() {
		wantNode(t, mustEncode(t, n), n)
	}
	r := rand.New(rand.NewSource(14))
	for range 20000 {
		n := randomNode(r)
		s := mustEncode(t, n)
		if s != plainEncode(n) {
			t.Fatalf("Encode of %v is %x", n, s)
		}
		wantNode(t, s, n)
	}
}

func TestBytesAreOfOneNode(t *testing.T) {
	of := map[string]Node{}
	for _, n := range nodesThatMay() {
		s := mustEncode(t, n)
		if m, ok := of[s]; ok && m != n {
			t.Errorf("%x is of %v and of %v", s, m, n)
		}
		of[s] = n
	}
}

// wantAsTheWords holds Decode against the chapter's words, and what is decoded against its own bytes.
func wantAsTheWords(t *testing.T, s string) {
	t.Helper()
	n, e := Decode(s)
	if e != plainFault(s) {
		t.Fatalf("Decode of %x is error %d, want %d", s, e, plainFault(s))
	}
	if e != api.OK && n != (Node{}) {
		t.Fatalf("Decode of %x is %v beside error %d", s, n, e)
	}
	if e == api.OK && plainEncode(n) != s {
		t.Fatalf("Decode of %x is %v, of which the bytes are %x", s, n, plainEncode(n))
	}
}

func TestBytesOfAllKinds(t *testing.T) {
	wantAsTheWords(t, "")
	words := []string{""}
	for range 6 {
		var longer []string
		for _, w := range words {
			for _, b := range []string{"\x00", "\x01", "\x02", "\x10", "\x40"} {
				wantAsTheWords(t, w+b)
				longer = append(longer, w+b)
			}
		}
		words = longer
	}
	for n := range 3001 {
		for _, b := range []string{"\x00", "\x01", "\x0f"} {
			wantAsTheWords(t, "\x00"+strings.Repeat(b, n))
			wantAsTheWords(t, "\x01"+strings.Repeat(b, n))
		}
	}
}

func TestBytesThatWereTurned(t *testing.T) {
	for _, n := range nodesThatMay() {
		s := mustEncode(t, n)
		for at := range len(s) {
			for _, b := range []byte{0, 1, 2, 15, 16, 63, 64, 128, 255} {
				turned := []byte(s)
				turned[at] = b
				wantAsTheWords(t, string(turned))
			}
			wantAsTheWords(t, s[:at]+s[at+1:])
			wantAsTheWords(t, s[:at]+"\x00"+s[at:])
			wantAsTheWords(t, s[:at]+"\x01"+s[at:])
		}
	}
}

func TestBytesByChance(t *testing.T) {
	r := rand.New(rand.NewSource(15))
	for range 50000 {
		b := make([]byte, r.Intn(160))
		for i := range b {
			b[i] = byte(r.Intn(1 << r.Intn(9)))
		}
		wantAsTheWords(t, string(b))
	}
}
