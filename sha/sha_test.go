package sha

import (
	"crypto/sha256"
	"encoding"
	"encoding/binary"
	"encoding/hex"
	"math"
	"slices"
	"strings"
	"testing"

	"oblivion/api"
)

// sample makes a text of n bytes in which neighbours differ, so that a shifted or turned text shows.
func sample(n, from int) string {
	b := make([]byte, n)
	for i := range b {
		b[i] = byte(from + 7*i + i/251)
	}
	return string(b)
}

// states: words from which a step may begin, the first ones and others.
func states() [][8]uint32 {
	all := uint32(math.MaxUint32)
	return [][8]uint32{
		{0x6a09e667, 0xbb67ae85, 0x3c6ef372, 0xa54ff53a, 0x510e527f, 0x9b05688c, 0x1f83d9ab, 0x5be0cd19},
		{},
		{all, all, all, all, all, all, all, all},
		{1, 2, 3, 4, 5, 6, 7, 8},
		{1 << 31, 1, 1 << 31, 1, 1 << 31, 1, 1 << 31, 1},
		{0x01234567, 0x89abcdef, 0xfedcba98, 0x76543210, 0xdeadbeef, 0x0badf00d, 0xcafebabe, 0x8badf00d},
	}
}

// blocks: blocks of plain, turned and edge bytes.
func blocks() []string {
	out := []string{strings.Repeat("\x00", 64), strings.Repeat("\xff", 64), strings.Repeat("\x80", 64), strings.Repeat("a", 64)}
	for i := range 64 {
		b := make([]byte, 64)
		b[i] = 1
		out = append(out, string(b), sample(64, 3*i))
	}
	return out
}

// libraryStep is one step by the library's SHA-256, which lets its words be set and read as bytes.
func libraryStep(t *testing.T, h [8]uint32, block string) [8]uint32 {
	t.Helper()
	d := sha256.New()
	state, err := d.(encoding.BinaryMarshaler).MarshalBinary()
	if err != nil {
		t.Fatal(err)
	}
	for i, w := range h {
		binary.BigEndian.PutUint32(state[4+4*i:], w)
	}
	if err := d.(encoding.BinaryUnmarshaler).UnmarshalBinary(state); err != nil {
		t.Fatal(err)
	}
	d.Write([]byte(block))
	state, err = d.(encoding.BinaryMarshaler).MarshalBinary()
	if err != nil {
		t.Fatal(err)
	}
	for i := range h {
		h[i] = binary.BigEndian.Uint32(state[4+4*i:])
	}
	return h
}

func librarySum(s string) api.Hash {
	return sha256.Sum256([]byte(s))
}

func bytesOf(h [8]uint32) api.Hash {
	var out api.Hash
	for i, w := range h {
		binary.BigEndian.PutUint32(out[4*i:], w)
	}
	return out
}

// P2.1

func checkFill(t *testing.T, n int) {
	t.Helper()
	f := Fill(n)
	if len(f) < 9 || len(f) > 72 {
		t.Fatalf("Fill(%d) has %d bytes", n, len(f))
	}
	if (n%64+len(f))%64 != 0 {
		t.Errorf("Fill(%d): %d bytes do not end a block", n, len(f))
	}
	if f[0] != 128 {
		t.Errorf("Fill(%d) begins by %d", n, f[0])
	}
	if z := f[1 : len(f)-8]; strings.Trim(z, "\x00") != "" {
		t.Errorf("Fill(%d) has %x between", n, z)
	}
	if got := binary.BigEndian.Uint64([]byte(f[len(f)-8:])); got != 8*uint64(n) {
		t.Errorf("Fill(%d) ends by %d", n, got)
	}
}

func TestFill(t *testing.T) {
	for n := range 600 {
		checkFill(t, n)
	}
	for _, n := range []int{2999, 3000, 8191, 8192, 1<<21 - 1, 1 << 21, 1<<29 - 1, 1 << 29, 1<<31 - 1, 1 << 31, 1 << 40, 1<<53 + 5} {
		checkFill(t, n)
	}
}

func TestFillLengths(t *testing.T) {
	for _, x := range []struct{ n, want int }{
		{0, 64}, {1, 63}, {54, 10}, {55, 9}, {56, 72}, {57, 71}, {63, 65}, {64, 64}, {65, 63}, {119, 9}, {120, 72}, {128, 64},
	} {
		if got := len(Fill(x.n)); got != x.want {
			t.Errorf("Fill(%d) has %d bytes, want %d", x.n, got, x.want)
		}
	}
}

func TestFillBytes(t *testing.T) {
	for _, x := range []struct {
		n    int
		want string
	}{
		{55, "\x80\x00\x00\x00\x00\x00\x00\x01\xb8"},
		{64 + 55, "\x80\x00\x00\x00\x00\x00\x00\x03\xb8"},
		{0x123456789ab7, "\x80\x00\x00\x91\xa2\xb3\xc4\xd5\xb8"},
		{62, "\x80" + strings.Repeat("\x00", 57+6) + "\x01\xf0"},
	} {
		if got := Fill(x.n); got != x.want {
			t.Errorf("Fill(%d) is %x, want %x", x.n, got, x.want)
		}
	}
}

func TestFillBelowZero(t *testing.T) {
	for _, n := range []int{-1, -2, -8, -55, -56, -63, -64, -65, -1 << 31, math.MinInt + 1, math.MinInt} {
		if f := Fill(n); f != "" {
			t.Errorf("Fill(%d) is %x", n, f)
		}
	}
}

func TestFillGreatest(t *testing.T) {
	for _, n := range []int{1<<60 - 1, 1 << 60, 1 << 61, 1<<61 + 9, 1 << 62, math.MaxInt - 64, math.MaxInt - 9, math.MaxInt - 8, math.MaxInt - 1, math.MaxInt} {
		checkFill(t, n)
	}
}

// P2.2

func TestStep(t *testing.T) {
	for _, h := range states() {
		for _, b := range blocks() {
			if got, want := Step(h, b), libraryStep(t, h, b); got != want {
				t.Fatalf("Step(%x, %x) is %x, want %x", h, b, got, want)
			}
		}
	}
}

func TestStepChain(t *testing.T) {
	h, want := states()[3], states()[3]
	for i := range 300 {
		b := sample(64, i)
		h, want = Step(h, b), libraryStep(t, want, b)
		if h != want {
			t.Fatalf("step %d is %x, want %x", i, h, want)
		}
	}
}

func TestStepOfNoBlock(t *testing.T) {
	for _, h := range states() {
		for _, n := range []int{0, 1, 4, 16, 32, 55, 56, 60, 62, 63, 65, 66, 72, 127, 128, 129, 192, 3000} {
			if got := Step(h, sample(n, n)); got != h {
				t.Errorf("Step(%x) of %d bytes is %x", h, n, got)
			}
		}
	}
}

func TestStepKeepsWhatIsHandedIn(t *testing.T) {
	h, b := states()[0], sample(64, 1)
	Step(h, b)
	if h != states()[0] || b != sample(64, 1) {
		t.Error("Step changed what was handed in")
	}
}

// P2.3

func TestSumKnown(t *testing.T) {
	for _, x := range []struct {
		parts []string
		want  string
	}{
		{nil, "e3b0c44298fc1c149afbf4c8996fb92427ae41e4649b934ca495991b7852b855"},
		{[]string{"a", "bc"}, "ba7816bf8f01cfea414140de5dae2223b00361a396177a9cb410ff61f20015ad"},
		{[]string{"abcdbcdecdefdefgefghfghighijhijkijkljklmklmnlmnomnopnopq"}, "248d6a61d20638b8e5c026930c3e6039a33ce45964ff2167f6ecedd419db06c1"},
		{[]string{"abcdefghbcdefghicdefghijdefghijkefghijklfghijklmghijklmn", "hijklmnoijklmnopjklmnopqklmnopqrlmnopqrsmnopqrstnopqrstu"}, "cf5b16a778af8380036ce59e7b0492370b249b11e8f07a51afac45037afee9d1"},
		{[]string{strings.Repeat("a", 1000000)}, "cdc76e5c9914fb9281a1c7e284d73e67f1809a48a497200e046d39ccc7112cd0"},
	} {
		h := Sum(x.parts...)
		if got := hex.EncodeToString(h[:]); got != x.want {
			t.Errorf("Sum of %d parts is %s, want %s", len(x.parts), got, x.want)
		}
	}
}

func TestSumOfEachLength(t *testing.T) {
	for n := range 400 {
		s := sample(n, n)
		if got, want := Sum(s), librarySum(s); got != want {
			t.Fatalf("Sum of %d bytes is %x, want %x", n, got, want)
		}
	}
	for _, n := range []int{1500, 2999, 3000, 8191, 8192, 1 << 16} {
		s := sample(n, n)
		if got, want := Sum(s), librarySum(s); got != want {
			t.Errorf("Sum of %d bytes is %x, want %x", n, got, want)
		}
	}
}

func TestSumBySteps(t *testing.T) {
	for _, n := range []int{0, 3, 55, 56, 63, 64, 65, 119, 120, 128, 700} {
		s := sample(n, 9)
		all := s + Fill(n)
		h := states()[0]
		for len(all) > 0 {
			h, all = Step(h, all[:64]), all[64:]
		}
		if got, want := Sum(s), bytesOf(h); got != want {
			t.Errorf("Sum of %d bytes is %x, by steps %x", n, got, want)
		}
	}
}

func TestSumOfAnyByte(t *testing.T) {
	for b := range 256 {
		for _, n := range []int{1, 56, 64} {
			s := strings.Repeat(string([]byte{byte(b)}), n)
			if got, want := Sum(s), librarySum(s); got != want {
				t.Fatalf("Sum of %d bytes %d is %x, want %x", n, b, got, want)
			}
		}
	}
}

func TestShort(t *testing.T) {
	var h api.Hash
	for i := range h {
		h[i] = byte(i + 1)
	}
	kept := h
	want := api.Key{1, 2, 3, 4, 5, 6, 7, 8, 9, 10, 11, 12, 13, 14, 15, 16}
	if got := Short(h); got != want {
		t.Errorf("Short is %x", got)
	}
	if h != kept {
		t.Error("Short changed what was handed in")
	}
	if got := Short(api.Hash{}); got != (api.Key{}) {
		t.Errorf("Short of zeros is %x", got)
	}
	if got := Short(api.Hash{16: 1, 31: 1}); got != (api.Key{}) {
		t.Errorf("Short of a hash whose first bytes are zeros is %x", got)
	}
}

// P2.4

func TestSumOfTwoParts(t *testing.T) {
	for _, n := range []int{1, 3, 55, 56, 63, 64, 65, 130, 200} {
		s := sample(n, 5)
		want := librarySum(s)
		for at := range n + 1 {
			for _, parts := range [][]string{{s[:at], s[at:]}, {"", s[:at], "", "", s[at:], ""}} {
				if got := Sum(parts...); got != want {
					t.Fatalf("Sum of %d bytes, parted at %d into %d, is %x, want %x", n, at, len(parts), got, want)
				}
			}
		}
	}
}

func TestSumOfThreeParts(t *testing.T) {
	s := sample(140, 8)
	want := librarySum(s)
	for i := 0; i <= len(s); i++ {
		for j := i; j <= len(s); j++ {
			if got := Sum(s[:i], s[i:j], s[j:]); got != want {
				t.Fatalf("Sum parted at %d and %d is %x, want %x", i, j, got, want)
			}
		}
	}
}

func TestSumOfEvenParts(t *testing.T) {
	s := sample(3000, 2)
	want := librarySum(s)
	for size := 1; size <= 300; size++ {
		var parts []string
		for piece := range slices.Chunk([]byte(s), size) {
			parts = append(parts, string(piece))
		}
		if got := Sum(parts...); got != want {
			t.Fatalf("Sum of parts of %d bytes is %x, want %x", size, got, want)
		}
	}
}

func TestSumOfNoText(t *testing.T) {
	want := librarySum("")
	for _, parts := range [][]string{nil, {}, {""}, {"", ""}, make([]string, 300)} {
		if got := Sum(parts...); got != want {
			t.Errorf("Sum of %d empty parts is %x", len(parts), got)
		}
	}
}

func TestSumOrderMatters(t *testing.T) {
	if Sum("a", "bc") == Sum("bc", "a") {
		t.Error("parts in another order have the same sum")
	}
}

// R4 and R5

func TestSumKeepsWhatIsHandedIn(t *testing.T) {
	parts := []string{"a", "", sample(200, 1), "z"}
	kept := slices.Clone(parts)
	first := Sum(parts...)
	if !slices.Equal(parts, kept) {
		t.Error("Sum changed its parts")
	}
	Sum("something else")
	if Sum(parts...) != first {
		t.Error("a sum hangs on what was summed ahead of it")
	}
}
