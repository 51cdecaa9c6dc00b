package ctr

import (
	library "crypto/aes"
	"encoding/binary"
	"encoding/hex"
	"math"
	"strings"
	"testing"

	"oblivion/api"
)

const whole = 4096

// sample makes a text of n bytes in which neighbours differ, so that a shifted or turned text shows.
func sample(n, from int) string {
	b := make([]byte, n)
	for i := range b {
		b[i] = byte(from + 7*i + i/251)
	}
	return string(b)
}

func keys() []api.Key {
	all := api.Key{}
	for i := range all {
		all[i] = 0xff
	}
	return []api.Key{{}, all, {1, 2}, {15: 1}, api.Key([]byte(sample(16, 200)))}
}

func nonces() []uint64 {
	return []uint64{0, 1, 2, 255, 256, 259, 1<<32 - 1, 1 << 32, 1 << 56, 1 << 63, 0x0102030405060708, math.MaxUint64 - 1, math.MaxUint64}
}

// libraryStream is all of the stream that may be asked for, by the library's AES.
func libraryStream(t *testing.T, key api.Key, nonce uint64) string {
	t.Helper()
	c, err := library.NewCipher(key[:])
	if err != nil {
		t.Fatal(err)
	}
	var out []byte
	for i := range uint64(whole / 16) {
		var block []byte
		block = binary.LittleEndian.AppendUint64(block, nonce)
		block = binary.LittleEndian.AppendUint64(block, i)
		c.Encrypt(block, block)
		out = append(out, block...)
	}
	return string(out)
}

func xor(a, b string) string {
	out := []byte(a)
	for i := range out {
		out[i] ^= b[i]
	}
	return string(out)
}

// P5.1

func TestStreamKnown(t *testing.T) {
	for _, x := range []struct {
		key   string
		nonce uint64
		want  string
	}{
		{strings.Repeat("\x00", 16), 0, "66e94bd4ef8a2c3b884cfa59ca342b2e0c546f62bf2773cd0f564fceca7ba688c2120bcd49eda9a288b3b4be79ac8158"},
		{"\x00\x01\x02\x03\x04\x05\x06\x07\x08\x09\x0a\x0b\x0c\x0d\x0e\x0f", 0x0102030405060708, "f62931db82c76b456d2d09bd57d787a236f2a1b0ef83761267fce4e5030d5985120fd4d94918b3ca3f8154f90f5b15ce"},
		{strings.Repeat("\xff", 16), math.MaxUint64, "13840d27b46eff75999b8259398687aacabca558206578230285f1737043f729"},
	} {
		s := Stream(api.Key([]byte(x.key)), x.nonce, len(x.want)/2)
		if got := hex.EncodeToString([]byte(s)); got != x.want {
			t.Errorf("the stream of %x and %d is %s, want %s", x.key, x.nonce, got, x.want)
		}
	}
}

func TestStreamLastBlockKnown(t *testing.T) {
	var key api.Key
	for i := range key {
		key[i] = byte(i)
	}
	s := Stream(key, 258, whole)
	if got, want := hex.EncodeToString([]byte(s[whole-16:])), "9447af8b91a135c43959d590a9524480"; got != want {
		t.Errorf("the last block is %s, want %s", got, want)
	}
}

func TestStreamOfKeysAndNonces(t *testing.T) {
	for _, key := range keys() {
		for _, nonce := range nonces() {
			if Stream(key, nonce, whole) != libraryStream(t, key, nonce) {
				t.Errorf("the stream of %x and %d is another one", key, nonce)
			}
		}
	}
}

func TestStreamOfEachLength(t *testing.T) {
	key := api.Key{3: 9}
	want := libraryStream(t, key, 77)
	lengths := []int{511, 512, 513, 1000, 1500, 3000, 4079, 4080, 4081, 4094, 4095, 4096}
	for n := range 200 {
		lengths = append(lengths, n)
	}
	for _, n := range lengths {
		if s := Stream(key, 77, n); s != want[:n] {
			t.Errorf("%d bytes: %x", n, s)
		}
	}
}

func TestStreamBeyondTheEdges(t *testing.T) {
	key := api.Key{1}
	for _, n := range []int{0, -1, -2, -16, -4096, -4097, math.MinInt32, math.MinInt + 1, math.MinInt} {
		if s := Stream(key, 5, n); s != "" {
			t.Errorf("%d bytes: %d of them", n, len(s))
		}
	}
	want := libraryStream(t, key, 5)
	for _, n := range []int{4097, 4098, 4112, 8192, 9999, math.MaxInt32, math.MaxInt - 1, math.MaxInt} {
		if s := Stream(key, 5, n); s != want {
			t.Errorf("%d bytes: %d of them, want the first 4096", n, len(s))
		}
	}
}

func TestStreamsDiffer(t *testing.T) {
	seen := make(map[string]string)
	for _, key := range keys() {
		for _, nonce := range nonces() {
			s := Stream(key, nonce, 16)
			name := hex.EncodeToString(key[:])
			if was, ok := seen[s]; ok {
				t.Errorf("%s and %d begin as a stream of %s", name, nonce, was)
			}
			seen[s] = name
		}
	}
}

func TestCryptOfEachLength(t *testing.T) {
	key := api.Key{2: 200}
	want := libraryStream(t, key, 1<<40)
	lengths := []int{255, 256, 257, 1000, 1500, 3000, 4080, 4081, 4095, 4096}
	for n := range 100 {
		lengths = append(lengths, n)
	}
	for _, n := range lengths {
		s := sample(n, n)
		if got := Crypt(key, 1<<40, s); got != xor(s, want) {
			t.Errorf("%d bytes: %x", n, got)
		}
	}
}

func TestCryptOfKeysAndNonces(t *testing.T) {
	s := sample(50, 3)
	for _, key := range keys() {
		for _, nonce := range nonces() {
			if Crypt(key, nonce, s) != xor(s, libraryStream(t, key, nonce)) {
				t.Errorf("by %x and %d the text is hidden otherwise", key, nonce)
			}
		}
	}
}

func TestCryptOfZerosIsTheStream(t *testing.T) {
	for _, n := range []int{1, 15, 16, 17, 1000, whole} {
		if Crypt(api.Key{4}, 9, strings.Repeat("\x00", n)) != Stream(api.Key{4}, 9, n) {
			t.Errorf("%d zeros are not hidden as the stream", n)
		}
	}
}

func TestCryptOfBytesThatAreNoLetters(t *testing.T) {
	for _, s := range []string{"\xff\xfe\x00", "\xc3", "\ufffd", "ä€😀", "a\x00b"} {
		if got := Crypt(api.Key{}, 0, s); got != xor(s, libraryStream(t, api.Key{}, 0)) {
			t.Errorf("%q: %x", s, got)
		}
	}
}

func TestCryptTooLong(t *testing.T) {
	for _, n := range []int{4097, 4098, 4112, 8192, 65536, 70000} {
		if s := Crypt(api.Key{1}, 1, sample(n, 0)); s != "" {
			t.Errorf("%d bytes: %d of them, want none", n, len(s))
		}
	}
}

// P5.2

func TestAtEachByte(t *testing.T) {
	key := api.Key{9, 8, 7}
	want := libraryStream(t, key, 3)
	for at := range whole + 1 {
		for _, n := range []int{0, 1, 18} {
			n = min(n, whole-at)
			s := sample(n, at)
			if got := At(key, 3, at, s); got != xor(s, want[at:]) {
				t.Fatalf("%d bytes at %d: %x", n, at, got)
			}
		}
	}
}

func TestAtOfKeysAndNonces(t *testing.T) {
	s := sample(40, 1)
	for _, key := range keys() {
		for _, nonce := range nonces() {
			if At(key, nonce, 21, s) != xor(s, libraryStream(t, key, nonce)[21:]) {
				t.Errorf("by %x and %d the text is hidden otherwise", key, nonce)
			}
		}
	}
}

func TestAtUpToTheEnd(t *testing.T) {
	key := api.Key{5: 5}
	want := libraryStream(t, key, 8)
	for _, n := range []int{1, 2, 15, 16, 17, 1000, 3000, 4095, 4096} {
		s := sample(n, n)
		if got := At(key, 8, whole-n, s); got != xor(s, want[whole-n:]) {
			t.Errorf("the last %d bytes: %d of them", n, len(got))
		}
		for _, over := range []int{1, 2, 16, 4096} {
			if got := At(key, 8, whole-n+over, s); got != "" {
				t.Errorf("%d bytes, %d too far: %d of them, want none", n, over, len(got))
			}
		}
		if got := At(key, 8, whole-n, s+"x"); got != "" {
			t.Errorf("%d bytes and one more: %d of them, want none", n, len(got))
		}
	}
}

func TestAtNowhere(t *testing.T) {
	places := []int{
		-1, -2, -16, -4096, math.MinInt32, math.MinInt, math.MinInt + 1, math.MinInt + 4096,
		4097, 5000, math.MaxInt32, math.MaxInt, math.MaxInt - 1, math.MaxInt - 16, math.MaxInt - 4096,
	}
	for _, at := range places {
		for _, n := range []int{0, 1, 2, 17, 4096, 4097, 70000} {
			if s := At(api.Key{1}, 1, at, sample(n, 0)); s != "" {
				t.Errorf("%d bytes at %d: %d of them, want none", n, at, len(s))
			}
		}
	}
	for _, n := range []int{4097, 8192, 70000} {
		if s := At(api.Key{1}, 1, 0, sample(n, 0)); s != "" {
			t.Errorf("%d bytes at 0: %d of them, want none", n, len(s))
		}
	}
}

// P5.3

func TestTwiceHiddenIsNotHidden(t *testing.T) {
	for _, key := range keys() {
		for _, nonce := range nonces() {
			for _, s := range []string{"", "a", "abc", "\x00\xff", sample(16, 2), sample(33, 2), sample(1000, 2)} {
				if got := Crypt(key, nonce, Crypt(key, nonce, s)); got != s {
					t.Errorf("by %x and %d, %q comes back as %q", key, nonce, s, got)
				}
				if got := At(key, nonce, 29, At(key, nonce, 29, s)); got != s {
					t.Errorf("by %x and %d, %q at 29 comes back as %q", key, nonce, s, got)
				}
			}
		}
	}
	s := sample(whole, 6)
	if Crypt(api.Key{}, 1, Crypt(api.Key{}, 1, s)) != s {
		t.Error("4096 bytes do not come back")
	}
}

func TestHiddenIsShownByItsKeyAndNonceAlone(t *testing.T) {
	s := sample(100, 4)
	hidden := Crypt(api.Key{1}, 1, s)
	if hidden == s || Crypt(api.Key{2}, 1, hidden) == s || Crypt(api.Key{1}, 2, hidden) == s || At(api.Key{1}, 1, 1, hidden) == s {
		t.Error("a text is shown by what did not hide it")
	}
}

func TestPartIsHiddenAsInTheWhole(t *testing.T) {
	key := api.Key{6: 1}
	s := sample(70, 7)
	hidden := Crypt(key, 44, s)
	for from := range len(s) + 1 {
		for to := from; to <= len(s); to++ {
			if At(key, 44, from, s[from:to]) != hidden[from:to] {
				t.Fatalf("the bytes %d to %d are hidden otherwise", from, to)
			}
		}
	}
	for n := range len(s) + 1 {
		if Crypt(key, 44, s[:n]) != hidden[:n] || Stream(key, 44, n) != Stream(key, 44, 70)[:n] {
			t.Fatalf("the first %d bytes are hidden otherwise", n)
		}
	}
}

func TestPartsMakeTheWhole(t *testing.T) {
	key := api.Key{11: 3}
	s := sample(whole, 1)
	want := Crypt(key, 12, s)
	for _, size := range []int{1, 7, 16, 17, 1000, 4095} {
		got := ""
		for at := 0; at < whole; at += size {
			got += At(key, 12, at, s[at:min(at+size, whole)])
		}
		if got != want {
			t.Errorf("parts of %d bytes do not make the whole", size)
		}
	}
}

// The iterator may be left, and gone through again.

func TestStreamIsLeftEarly(t *testing.T) {
	want := libraryStream(t, api.Key{}, 6)
	bytes := stream(api.Key{}, 6, 10, 60)
	for _, n := range []int{1, 6, 7, 22, 50, 50} {
		var got []byte
		for b := range bytes {
			got = append(got, b)
			if len(got) == n {
				break
			}
		}
		if string(got) != want[10:10+n] {
			t.Errorf("left behind %d bytes: %x", n, got)
		}
	}
}

// R4 and R5

func TestNothingIsKept(t *testing.T) {
	key, s := api.Key{1, 2, 3}, sample(40, 1)
	first, part, bytes := Crypt(key, 1, s), At(key, 1, 5, s), Stream(key, 1, 40)
	Crypt(api.Key{4}, 9, "something else")
	Stream(api.Key{4}, 9, whole)
	At(api.Key{4}, 9, -1, "a")
	if Crypt(key, 1, s) != first || At(key, 1, 5, s) != part || Stream(key, 1, 40) != bytes {
		t.Error("an answer hangs on what was asked ahead of it")
	}
	if key != (api.Key{1, 2, 3}) || s != sample(40, 1) {
		t.Error("what was handed in was changed")
	}
}
