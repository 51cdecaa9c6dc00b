package box

import (
	library "crypto/aes"
	"crypto/hmac"
	"crypto/sha256"
	"encoding/binary"
	"encoding/hex"
	"math"
	"strings"
	"testing"

	"oblivion/api"
)

// sample makes a text of n bytes in which neighbours differ, so that a shifted or turned text shows.
func sample(n, from int) string {
	b := make([]byte, n)
	for i := range b {
		b[i] = byte(from + 7*i + i/251)
	}
	return string(b)
}

func keys() []api.Key {
	all := api.Key{}
	for i := range all {
		all[i] = 0xff
	}
	return []api.Key{{}, all, {1, 2}, {15: 1}, api.Key([]byte(sample(16, 200)))}
}

func nonces() []uint64 {
	return []uint64{0, 1, 255, 256, 259, 1 << 32, 1 << 63, 0x0102030405060708, math.MaxUint64}
}

// libraryMac is a tag as the library's HMAC reckons it.
func libraryMac(key, s string) string {
	m := hmac.New(sha256.New, []byte(key))
	m.Write([]byte(s))
	return string(m.Sum(nil))
}

func libraryDerive(key api.Key, label string) string {
	s := string([]byte{byte(len(label))}) + label + strings.Repeat("\x00", 8)
	return libraryMac(string(key[:]), s)[:16]
}

func libraryHide(t *testing.T, key api.Key, nonce uint64, plain string) string {
	t.Helper()
	c, err := library.NewCipher([]byte(libraryDerive(key, "hide")))
	if err != nil {
		t.Fatal(err)
	}
	out := []byte(plain)
	var block [16]byte
	for i := range out {
		if i%16 == 0 {
			binary.LittleEndian.PutUint64(block[:8], nonce)
			binary.LittleEndian.PutUint64(block[8:], uint64(i/16))
			c.Encrypt(block[:], block[:])
		}
		out[i] ^= block[i%16]
	}
	return string(out)
}

// closed lays the library's tag behind what is ahead, however long that is.
func closed(key api.Key, kind byte, ahead string) string {
	return ahead + libraryMac(libraryDerive(key, "tag"), string([]byte{kind})+ahead)[:16]
}

// librarySeal is a box by the library's AES and HMAC, of a text that may be longer than Seal's.
func librarySeal(t *testing.T, key api.Key, nonce uint64, kind byte, plain string) string {
	t.Helper()
	number := binary.LittleEndian.AppendUint64(nil, nonce)
	return closed(key, kind, string(number)+libraryHide(t, key, nonce, plain))
}

func wantOpened(t *testing.T, key api.Key, kind byte, sealed, plain string, nonce uint64) {
	t.Helper()
	p, n, e := Open(key, kind, sealed)
	if p != plain || n != nonce || e != api.OK {
		t.Errorf("%d bytes of kind %d: %q, %d, %d, want %q, %d", len(sealed), kind, p, n, e, plain, nonce)
	}
}

func wantRefused(t *testing.T, key api.Key, kind byte, sealed string, want api.Errno) {
	t.Helper()
	p, n, e := Open(key, kind, sealed)
	if p != "" || n != 0 || e != want {
		t.Errorf("%x of kind %d: %q, %d, %d, want the error %d", sealed, kind, p, n, e, want)
	}
}

// P6.1

// The bytes were reckoned by other programs than this one and the library.
func knownBoxes() []struct {
	key    string
	nonce  uint64
	kind   byte
	plain  string
	sealed string
} {
	return []struct {
		key    string
		nonce  uint64
		kind   byte
		plain  string
		sealed string
	}{
		{strings.Repeat("\x00", 16), 0, 0, "", "0000000000000000afe5fde57fe23ebf0a93bda502d9d5e6"},
		{"\x00\x01\x02\x03\x04\x05\x06\x07\x08\x09\x0a\x0b\x0c\x0d\x0e\x0f", 258, 3, "abc", "02010000000000006763df56e9bedc54fb02e961867a32fa20ef11"},
		{strings.Repeat("\xff", 16), math.MaxUint64, 255, "what do ya want for nothing?", "ffffffffffffffff30d3e8cc9536dd9807bce1366cb214c14129af1d3d8bb344b4f5d0f7f7c787229e28fd70d3fd5f7d2bd4a4e7"},
	}
}

func TestSealKnown(t *testing.T) {
	for _, x := range knownBoxes() {
		s := Seal(api.Key([]byte(x.key)), x.nonce, x.kind, x.plain)
		if got := hex.EncodeToString([]byte(s)); got != x.sealed {
			t.Errorf("%q sealed is %s, want %s", x.plain, got, x.sealed)
		}
	}
}

func TestSealOfKeysAndNonces(t *testing.T) {
	for _, key := range keys() {
		for _, nonce := range nonces() {
			for _, s := range []string{"", "a", "\x00\xff", "ä€😀", sample(40, 1)} {
				if Seal(key, nonce, 7, s) != librarySeal(t, key, nonce, 7, s) {
					t.Errorf("by %x and %d, %q is sealed otherwise", key, nonce, s)
				}
			}
		}
	}
}

func TestSealOfEachKind(t *testing.T) {
	key := api.Key{3: 9}
	seen := make(map[string]int)
	for kind := range 256 {
		s := Seal(key, 77, byte(kind), "abc")
		if s != librarySeal(t, key, 77, byte(kind), "abc") {
			t.Errorf("of kind %d it is sealed otherwise", kind)
		}
		if was, ok := seen[s]; ok {
			t.Errorf("the kinds %d and %d are sealed alike", was, kind)
		}
		seen[s] = kind
	}
}

func TestSealOfEachLength(t *testing.T) {
	key := api.Key{2: 200}
	for n := range api.MaxText + 1 {
		s := sample(n, n)
		sealed := Seal(key, 1<<40, 9, s)
		if sealed != librarySeal(t, key, 1<<40, 9, s) {
			t.Fatalf("%d bytes are sealed otherwise", n)
		}
		if len(sealed) != Size(n) {
			t.Fatalf("%d bytes are %d when sealed, Size says %d", n, len(sealed), Size(n))
		}
	}
}

func TestSealTooLong(t *testing.T) {
	for _, n := range []int{1001, 1002, 1500, 3000, 4096, 4097, 70000} {
		if s := Seal(api.Key{1}, 1, 1, sample(n, 0)); s != "" {
			t.Errorf("%d bytes: %d of them, want none", n, len(s))
		}
	}
}

func TestSize(t *testing.T) {
	for n := range api.MaxText + 1 {
		if got := Size(n); got != n+24 {
			t.Errorf("Size(%d) is %d", n, got)
		}
	}
	for _, n := range []int{-1, -2, -23, -24, -25, math.MinInt32, math.MinInt, 1001, 1002, 1024, 3000, math.MaxInt32, math.MaxInt - 24, math.MaxInt} {
		if got := Size(n); got != 0 {
			t.Errorf("Size(%d) is %d, want 0", n, got)
		}
	}
}

// P6.2

func TestOpenKnown(t *testing.T) {
	for _, x := range knownBoxes() {
		sealed, err := hex.DecodeString(x.sealed)
		if err != nil {
			t.Fatal(err)
		}
		wantOpened(t, api.Key([]byte(x.key)), x.kind, string(sealed), x.plain, x.nonce)
	}
}

func TestOpenShort(t *testing.T) {
	key := api.Key{4}
	sealed := Seal(key, 5, 6, "abc")
	for n := range 24 {
		wantRefused(t, key, 6, sealed[:n], api.ErrShort)
		wantRefused(t, key, 6, strings.Repeat("\x00", n), api.ErrShort)
		wantRefused(t, key, 6, sealed[len(sealed)-n:], api.ErrShort)
	}
	// A tag that is right does not help what is short: this is the first error.
	for n := range 8 {
		wantRefused(t, key, 6, closed(key, 6, sample(n, 1)), api.ErrShort)
	}
	wantOpened(t, key, 6, closed(key, 6, "\x05\x00\x00\x00\x00\x00\x00\x00"), "", 5)
}

func TestOpenCutOrLonger(t *testing.T) {
	key := api.Key{4}
	sealed := Seal(key, 5, 6, sample(40, 2))
	for n := 24; n < len(sealed); n++ {
		wantRefused(t, key, 6, sealed[:n], api.ErrTag)
		wantRefused(t, key, 6, sealed[len(sealed)-n:], api.ErrTag)
	}
	for _, s := range []string{sealed + "\x00", "\x00" + sealed, sealed + sealed, sealed[:8] + sealed[9:], sealed[:20] + "x" + sealed[20:]} {
		wantRefused(t, key, 6, s, api.ErrTag)
	}
	for _, n := range []int{24, 25, 40, 1024, 1025, 3000, 70000} {
		wantRefused(t, key, 6, strings.Repeat("\x00", n), api.ErrTag)
	}
}

func TestOpenTurned(t *testing.T) {
	key := api.Key{7, 7}
	for _, plain := range []string{"", "a", sample(33, 5)} {
		sealed := Seal(key, 1<<33, 8, plain)
		for i := range len(sealed) {
			for bit := range 8 {
				b := []byte(sealed)
				b[i] ^= 1 << bit
				wantRefused(t, key, 8, string(b), api.ErrTag)
			}
		}
	}
}

func TestOpenOfOtherKinds(t *testing.T) {
	key := api.Key{1}
	for _, kind := range []byte{0, 1, 127, 128, 255} {
		sealed := Seal(key, 3, kind, "abc")
		for other := range 256 {
			if byte(other) == kind {
				wantOpened(t, key, kind, sealed, "abc", 3)
			} else {
				wantRefused(t, key, byte(other), sealed, api.ErrTag)
			}
		}
	}
}

func TestOpenByOtherKeys(t *testing.T) {
	key := api.Key([]byte(sample(16, 3)))
	sealed := Seal(key, 3, 2, "abc")
	for i := range key {
		for bit := range 8 {
			other := key
			other[i] ^= 1 << bit
			wantRefused(t, other, 2, sealed, api.ErrTag)
		}
	}
}

func TestOpenMixed(t *testing.T) {
	key := api.Key{6}
	a, b := Seal(key, 1, 2, "abc"), Seal(key, 2, 2, "abd")
	const head, tail = 8, 16
	wantRefused(t, key, 2, b[:head]+a[head:], api.ErrTag)
	wantRefused(t, key, 2, a[:head]+b[head:len(b)-tail]+a[len(a)-tail:], api.ErrTag)
	wantRefused(t, key, 2, a[:len(a)-tail]+b[len(b)-tail:], api.ErrTag)
}

// A tag by another key of the key, or with another order, is none.
func TestOpenOfTagsThatAreMadeOtherwise(t *testing.T) {
	key := api.Key{6}
	ahead := Seal(key, 1, 2, "abc")[:11]
	for name, tag := range map[string]string{
		"the key itself":   libraryMac(string(key[:]), "\x02"+ahead),
		"the hiding key":   libraryMac(libraryDerive(key, "hide"), "\x02"+ahead),
		"no kind":          libraryMac(libraryDerive(key, "tag"), ahead),
		"the kind behind":  libraryMac(libraryDerive(key, "tag"), ahead+"\x02"),
		"the other half":   libraryMac(libraryDerive(key, "tag"), "\x02"+ahead)[16:],
		"without nonce":    libraryMac(libraryDerive(key, "tag"), "\x02"+ahead[8:]),
		"the text in open": libraryMac(libraryDerive(key, "tag"), "\x02"+ahead[:8]+"abc"),
	} {
		if _, _, e := Open(key, 2, ahead+tag[:16]); e != api.ErrTag {
			t.Errorf("a tag by %s: %d, want ErrTag", name, e)
		}
	}
}

// The chapter bounds what is sealed, and not what is opened: a right tag is enough.
func TestOpenOfMoreThanIsSealed(t *testing.T) {
	key := api.Key{8: 1}
	for _, n := range []int{1001, 1500, 2976, 3000, 4096} {
		s := sample(n, 1)
		wantOpened(t, key, 4, librarySeal(t, key, 9, 4, s), s, 9)
	}
}

// P6.3

func TestSealedIsOpened(t *testing.T) {
	for _, key := range keys() {
		for _, nonce := range nonces() {
			for _, kind := range []byte{0, 1, 128, 255} {
				for _, s := range []string{"", "a", "abc", "\x00\xff", "ä€😀", sample(16, 2), sample(17, 2), sample(100, 9)} {
					wantOpened(t, key, kind, Seal(key, nonce, kind, s), s, nonce)
				}
			}
		}
	}
}

func TestSealedIsOpenedOfEachLength(t *testing.T) {
	key := api.Key{5, 4, 3}
	for n := range api.MaxText + 1 {
		s := sample(n, n)
		wantOpened(t, key, byte(n), Seal(key, uint64(n), byte(n), s), s, uint64(n))
	}
}

func TestABoxInABox(t *testing.T) {
	inner, outer := api.Key{1}, api.Key{2}
	sealed := Seal(inner, 1, 1, "abc")
	wantOpened(t, outer, 2, Seal(outer, 2, 2, sealed), sealed, 2)
}

// Ways: both keys come from one closure, and are not each other.

func TestKeysOf(t *testing.T) {
	for _, key := range keys() {
		keyFor := keysOf(key)
		hide, tag := keyFor(hideLabel), keyFor(tagLabel)
		if string(hide[:]) != libraryDerive(key, "hide") || string(tag[:]) != libraryDerive(key, "tag") {
			t.Errorf("the keys of %x are others", key)
		}
		if hide == tag || keyFor(hideLabel) != hide {
			t.Errorf("the keys of %x are not told apart", key)
		}
	}
}

// R4 and R5

func TestNothingIsKept(t *testing.T) {
	key, s := api.Key{1, 2, 3}, sample(40, 1)
	first := Seal(key, 1, 2, s)
	Seal(api.Key{4}, 9, 9, "something else")
	wantRefused(t, api.Key{4}, 9, first, api.ErrTag)
	if Seal(key, 1, 2, s) != first {
		t.Error("an answer hangs on what was asked ahead of it")
	}
	wantOpened(t, key, 2, first, s, 1)
	if key != (api.Key{1, 2, 3}) || s != sample(40, 1) {
		t.Error("what was handed in was changed")
	}
}
