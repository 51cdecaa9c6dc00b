package mac

import (
	"crypto/hmac"
	"crypto/sha256"
	"encoding/binary"
	"encoding/hex"
	"math"
	"slices"
	"strings"
	"testing"

	"oblivion/api"
)

// sample makes a text of n bytes in which neighbours differ, so that a shifted or turned text shows.
func sample(n, from int) string {
	b := make([]byte, n)
	for i := range b {
		b[i] = byte(from + 7*i + i/251)
	}
	return string(b)
}

// libraryMac is the tag as the library's HMAC reckons it.
func libraryMac(key, s string) api.Hash {
	m := hmac.New(sha256.New, []byte(key))
	m.Write([]byte(s))
	return api.Hash(m.Sum(nil))
}

func libraryDerive(key api.Key, label string, n uint64) api.Key {
	s := []byte{byte(len(label) % 256)}
	s = append(s, label...)
	s = binary.LittleEndian.AppendUint64(s, n)
	h := libraryMac(string(key[:]), string(s))
	return api.Key(h[:16])
}

// P3.1

func TestMacKnown(t *testing.T) {
	for _, x := range []struct {
		key   string
		parts []string
		want  string
	}{
		{"Jefe", []string{"what do ya want ", "for nothing?"}, "5bdcc146bf60754e6a042426089575c75a003f089d2739839dec58b964ec3843"},
		{strings.Repeat("\x0b", 20), []string{"Hi There"}, "b0344c61d8db38535ca8afceaf0bf12b881dc200c9833da726e9376c2e32cff7"},
		{strings.Repeat("\xaa", 20), []string{strings.Repeat("\xdd", 50)}, "773ea91e36800e46854db8ebd09181a72959098b3ef8c122d9635514ced565fe"},
		{strings.Repeat("\xaa", 131), []string{"Test Using Larger Than Block-Size Key - Hash Key First"}, "60e431591ee0b67f0d8a26aacbf5b77f8e0bc6213728c5140546040f0ee37f54"},
		{"", nil, "b613679a0814d9ec772f95d778c35fc5ff1697c493715653c6c712144292c5ad"},
	} {
		h := Mac(x.key, x.parts...)
		if got := hex.EncodeToString(h[:]); got != x.want {
			t.Errorf("Mac(%q, %q) is %s, want %s", x.key, x.parts, got, x.want)
		}
	}
}

func TestMacOfEachKeyLength(t *testing.T) {
	lengths := []int{255, 256, 257, 1000, 1500, 2999, 3000}
	for n := range 200 {
		lengths = append(lengths, n)
	}
	for _, n := range lengths {
		key := sample(n, 1)
		if got, want := Mac(key, "text"), libraryMac(key, "text"); got != want {
			t.Errorf("Mac by a key of %d bytes is %x, want %x", n, got, want)
		}
	}
}

func TestMacOfEachTextLength(t *testing.T) {
	lengths := []int{1000, 1500, 2999, 3000}
	for n := range 200 {
		lengths = append(lengths, n)
	}
	for _, n := range lengths {
		s := sample(n, 3)
		for _, key := range []string{"", "k", sample(64, 9), sample(65, 9)} {
			if got, want := Mac(key, s), libraryMac(key, s); got != want {
				t.Errorf("Mac of %d bytes by a key of %d is %x, want %x", n, len(key), got, want)
			}
		}
	}
}

func TestMacByAnyByte(t *testing.T) {
	for b := range 256 {
		key := strings.Repeat(string([]byte{byte(b)}), 1+b%70)
		if got, want := Mac(key, key), libraryMac(key, key); got != want {
			t.Errorf("Mac by %x is %x, want %x", key, got, want)
		}
	}
}

func TestMacKeyIsFilledByZeros(t *testing.T) {
	for _, n := range []int{0, 1, 16, 32, 63} {
		key := sample(n, 1)
		want := Mac(key, "text")
		if got := Mac(key+strings.Repeat("\x00", 64-n), "text"); got != want {
			t.Errorf("a key of %d bytes, filled up to 64, tags as %x, want %x", n, got, want)
		}
		if Mac(key+strings.Repeat("\x00", 65-n), "text") == want {
			t.Errorf("a key of %d bytes, filled up to 65, tags as the key itself", n)
		}
	}
}

func TestMacLongKeyIsSummed(t *testing.T) {
	for _, n := range []int{65, 66, 128, 3000} {
		key := sample(n, 1)
		h := sha256.Sum256([]byte(key))
		if Mac(key, "text") != Mac(string(h[:]), "text") {
			t.Errorf("a key of %d bytes tags otherwise than its sum", n)
		}
	}
	key := sample(64, 1)
	h := sha256.Sum256([]byte(key))
	if Mac(key, "text") == Mac(string(h[:]), "text") {
		t.Error("a key of 64 bytes tags as its sum")
	}
}

func TestMacHangsOnKeyAndText(t *testing.T) {
	seen := make(map[api.Hash]string)
	for _, key := range []string{"", "k", "l", "kk", sample(64, 1), sample(65, 1)} {
		for _, s := range []string{"", "t", "u", "tt", sample(64, 2), sample(128, 2)} {
			h := Mac(key, s)
			if was, ok := seen[h]; ok {
				t.Errorf("Mac(%q, %q) is also that of %q", key, s, was)
			}
			seen[h] = key + " and " + s
		}
	}
	if Mac("ab", "c") == Mac("a", "bc") {
		t.Error("the key's end counts as text")
	}
}

// P3.2

func TestDerive(t *testing.T) {
	keys := []api.Key{{}, {1, 2, 3}, {15: 1}, api.Key([]byte(sample(16, 200)))}
	labels := []string{"", "a", "hide", "\x00", "a\x00", sample(54, 1), sample(55, 1), sample(56, 1), sample(300, 1)}
	numbers := []uint64{0, 1, 2, 255, 256, 258, 1<<32 - 1, 1 << 32, 1 << 56, 0x0102030405060708, math.MaxUint64 - 1, math.MaxUint64}
	for _, key := range keys {
		for _, label := range labels {
			for _, n := range numbers {
				if got, want := Derive(key, label, n), libraryDerive(key, label, n); got != want {
					t.Errorf("Derive(%x, %q, %d) is %x, want %x", key, label, n, got, want)
				}
			}
		}
	}
}

func TestDeriveLabelLengths(t *testing.T) {
	key := api.Key{7: 7}
	for _, n := range []int{1, 127, 128, 254, 255, 256, 257, 511, 512, 513, 1000, 1001, 3000} {
		label := sample(n, 4)
		if got, want := Derive(key, label, 5), libraryDerive(key, label, 5); got != want {
			t.Errorf("Derive by a label of %d bytes is %x, want %x", n, got, want)
		}
	}
}

func TestDeriveByMac(t *testing.T) {
	k := api.Key{1, 2, 3}
	h := Mac(string(k[:]), "\x04hide\x02\x01\x00\x00\x00\x00\x00\x00")
	if got, want := Derive(k, "hide", 258), api.Key(h[:16]); got != want {
		t.Errorf("Derive is %x, want %x", got, want)
	}
	h = Mac(string(k[:]), "\x00"+strings.Repeat("l", 256)+strings.Repeat("\xff", 8))
	if got, want := Derive(k, strings.Repeat("l", 256), math.MaxUint64), api.Key(h[:16]); got != want {
		t.Errorf("Derive by a label of 256 bytes is %x, want %x", got, want)
	}
}

func TestDeriveDiffers(t *testing.T) {
	seen := make(map[api.Key]int)
	at := 0
	for _, key := range []api.Key{{}, {1}, {15: 1}} {
		for _, label := range []string{"", "a", "b", "ab", "a\x00"} {
			for n := range uint64(300) {
				k := Derive(key, label, n)
				if was, ok := seen[k]; ok {
					t.Fatalf("derived keys %d and %d are alike", was, at)
				}
				seen[k] = at
				at++
			}
		}
	}
}

func TestSame(t *testing.T) {
	long := sample(3000, 1)
	for _, x := range []struct {
		a, b string
		want bool
	}{
		{"", "", true},
		{"", "a", false},
		{"", "\x00", false},
		{"a", "a", true},
		{"a", "A", false},
		{"ab", "ac", false},
		{"ab", "cb", false},
		{"ab", "ba", false},
		{"ab", "abc", false},
		{"ab", "cab", false},
		{"ab\x00", "ab", false},
		{"\xff\xfe", "\xff\xfe", true},
		{"\xff", "\xfe", false},
		{"\xff", "\ufffd", false},
		{long, strings.Clone(long), true},
		{long, long[:2999], false},
		{long, long[:2999] + "\x01", false},
		{long, "\x02" + long[1:], false},
	} {
		if got := Same(x.a, x.b); got != x.want {
			t.Errorf("Same(%q, %q) is %v", x.a, x.b, got)
		}
		if got := Same(x.b, x.a); got != x.want {
			t.Errorf("Same(%q, %q) is %v", x.b, x.a, got)
		}
	}
}

func TestSameSeesEachBit(t *testing.T) {
	s := sample(32, 1)
	for i := range 8 * len(s) {
		b := []byte(s)
		b[i/8] ^= 1 << (i % 8)
		if Same(s, string(b)) {
			t.Errorf("bit %d is turned, and not seen", i)
		}
	}
}

// P3.3

func TestMacOfTwoParts(t *testing.T) {
	for _, n := range []int{1, 3, 55, 56, 63, 64, 65, 130} {
		s := sample(n, 5)
		for _, key := range []string{"", "key", sample(64, 2), sample(100, 2)} {
			want := libraryMac(key, s)
			for at := range n + 1 {
				for _, parts := range [][]string{{s[:at], s[at:]}, {"", s[:at], "", "", s[at:], ""}} {
					if got := Mac(key, parts...); got != want {
						t.Fatalf("Mac of %d bytes, parted at %d into %d, is %x, want %x", n, at, len(parts), got, want)
					}
				}
			}
		}
	}
}

func TestMacOfEvenParts(t *testing.T) {
	s := sample(3000, 2)
	want := libraryMac("key", s)
	for _, size := range []int{1, 2, 7, 10, 63, 64, 65, 300, 2999, 3000} {
		var parts []string
		for piece := range slices.Chunk([]byte(s), size) {
			parts = append(parts, string(piece))
		}
		if got := Mac("key", parts...); got != want {
			t.Errorf("Mac of parts of %d bytes is %x, want %x", size, got, want)
		}
	}
}

func TestMacOfNoText(t *testing.T) {
	want := libraryMac("key", "")
	for _, parts := range [][]string{nil, {}, {""}, {"", ""}, make([]string, 300)} {
		if got := Mac("key", parts...); got != want {
			t.Errorf("Mac of %d empty parts is %x", len(parts), got)
		}
	}
}

func TestMacOrderMatters(t *testing.T) {
	if Mac("key", "a", "bc") == Mac("key", "bc", "a") {
		t.Error("parts in another order have the same tag")
	}
}

// R4 and R5

func TestMacKeepsWhatIsHandedIn(t *testing.T) {
	all := []string{"a", "", sample(200, 1), "z", "behind"}
	kept := slices.Clone(all)
	first := Mac("key", all[:4]...)
	if !slices.Equal(all, kept) {
		t.Error("Mac changed its parts, or what is behind them")
	}
	Mac("another key", "something else")
	if Mac("key", all[:4]...) != first {
		t.Error("a tag hangs on what was tagged ahead of it")
	}
	key := api.Key{1, 2, 3}
	Derive(key, "label", 1)
	if key != (api.Key{1, 2, 3}) {
		t.Error("Derive changed its key")
	}
}
