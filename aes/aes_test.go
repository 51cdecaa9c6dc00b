package aes

import (
	library "crypto/aes"
	"encoding/hex"
	"math"
	"math/bits"
	"sync"
	"testing"

	"oblivion/api"
)

// sample makes a key or a block in which neighbours differ, so that a shifted or turned one shows.
func sample(from int) api.Key {
	var k api.Key
	for i := range k {
		k[i] = byte(from + 7*i + from*i/3)
	}
	return k
}

// keyOf reads a key that is written in base 16.
func keyOf(t *testing.T, s string) api.Key {
	t.Helper()
	b, err := hex.DecodeString(s)
	if err != nil || len(b) != len(api.Key{}) {
		t.Fatalf("%q is no key", s)
	}
	return api.Key(b)
}

// edges has blocks with all bits alike, and all with one bit that is unlike the others.
func edges() []api.Key {
	var none, all api.Key
	for i := range all {
		all[i] = 0xff
	}
	out := []api.Key{none, all}
	for bit := range 128 {
		one, other := none, all
		one[bit/8] ^= 1 << (bit % 8)
		other[bit/8] ^= 1 << (bit % 8)
		out = append(out, one, other)
	}
	return out
}

func libraryLock(t *testing.T, key, block api.Key) api.Key {
	t.Helper()
	c, err := library.NewCipher(key[:])
	if err != nil {
		t.Fatal(err)
	}
	c.Encrypt(block[:], block[:])
	return block
}

func libraryOpen(t *testing.T, key, block api.Key) api.Key {
	t.Helper()
	c, err := library.NewCipher(key[:])
	if err != nil {
		t.Fatal(err)
	}
	c.Decrypt(block[:], block[:])
	return block
}

// longProduct multiplies first and takes the multiples away afterwards, unlike Times.
func longProduct(a, b byte) byte {
	var p uint
	for i := range 8 {
		if b>>i&1 == 1 {
			p ^= uint(a) << i
		}
	}
	for bit := 15; bit >= 8; bit-- {
		if p>>bit&1 == 1 {
			p ^= 0x11b << (bit - 8)
		}
	}
	return byte(p)
}

// P4.1

func TestTimesKnown(t *testing.T) {
	for _, x := range []struct{ a, b, want byte }{
		{0x57, 0x83, 0xc1},
		{0x57, 0x13, 0xfe},
		{0x57, 2, 0xae},
		{0x53, 0xca, 1},
		{0x80, 2, 0x1b},
		{0x80, 0x80, 0x9a},
		{0xff, 0xff, 0x13},
		{0, 0, 0},
		{0, 255, 0},
		{1, 255, 255},
	} {
		if p := Times(x.a, x.b); p != x.want {
			t.Errorf("Times(%#x, %#x) is %#x, want %#x", x.a, x.b, p, x.want)
		}
	}
}

func TestTimesOfAllBytes(t *testing.T) {
	for a := range 256 {
		for b := range 256 {
			got, want := Times(byte(a), byte(b)), longProduct(byte(a), byte(b))
			if got != want {
				t.Fatalf("Times(%#x, %#x) is %#x, want %#x", a, b, got, want)
			}
		}
	}
}

func TestBoxKnown(t *testing.T) {
	for _, x := range []struct{ x, want byte }{
		{0, 0x63}, {1, 0x7c}, {0x0f, 0x76}, {0x10, 0xca}, {0x52, 0}, {0x53, 0xed}, {0x80, 0xcd}, {0xfe, 0xbb}, {0xff, 0x16},
	} {
		if b := Box(x.x); b != x.want {
			t.Errorf("Box(%#x) is %#x, want %#x", x.x, b, x.want)
		}
	}
}

func TestBoxOfAllBytes(t *testing.T) {
	for x := range 256 {
		var inverse byte
		for y := range 256 {
			if longProduct(byte(x), byte(y)) == 1 {
				inverse = byte(y)
			}
		}
		var want byte
		for i := range 8 {
			bit := byte(99) >> i & 1
			for _, on := range []int{0, 4, 5, 6, 7} {
				bit ^= inverse >> ((i + on) % 8) & 1
			}
			want |= bit << i
		}
		if got := Box(byte(x)); got != want {
			t.Errorf("Box(%#x) is %#x, want %#x", x, got, want)
		}
	}
}

// P4.2

func TestRoundKnown(t *testing.T) {
	c := New(keyOf(t, "2b7e151628aed2a6abf7158809cf4f3c"))
	for i, s := range []string{
		"2b7e151628aed2a6abf7158809cf4f3c",
		"a0fafe1788542cb123a339392a6c7605",
		"f2c295f27a96b9435935807a7359f67f",
		"3d80477d4716fe3e1e237e446d7a883b",
		"ef44a541a8525b7fb671253bdb0bad00",
		"d4d1c6f87c839d87caf2b8bc11f915bc",
		"6d88a37a110b3efddbf98641ca0093fd",
		"4e54f70e5f5fc9f384a64fb24ea6dc4f",
		"ead27321b58dbad2312bf5607f8d292f",
		"ac7766f319fadc2128d12941575c006e",
		"d014f9a8c9ee2589e13f0cc8b6630ca6",
	} {
		if r, e := c.Round(i); r != keyOf(t, s) || e != api.OK {
			t.Errorf("round key %d is %x, error %d; want %s", i, r, e, s)
		}
	}
}

func TestRoundsFollow(t *testing.T) {
	marks := []byte{1, 2, 4, 8, 16, 32, 64, 128, 0x1b, 0x36}
	keys := edges()
	for from := range 256 {
		keys = append(keys, sample(from))
	}
	for _, key := range keys {
		c := New(key)
		last, e := c.Round(0)
		if last != key || e != api.OK {
			t.Fatalf("round key 0 of %x is %x, error %d", key, last, e)
		}
		for i := 1; i <= 10; i++ {
			want := last
			ahead := [4]byte{Box(last[13]) ^ marks[i-1], Box(last[14]), Box(last[15]), Box(last[12])}
			for column := range 4 {
				for row := range 4 {
					ahead[row] ^= last[4*column+row]
					want[4*column+row] = ahead[row]
				}
			}
			r, e := c.Round(i)
			if r != want || e != api.OK {
				t.Fatalf("round key %d of %x is %x, error %d; want %x", i, key, r, e, want)
			}
			last = r
		}
	}
}

func TestRoundErrors(t *testing.T) {
	c := New(sample(1))
	for _, i := range []int{-1, 11, -2, 12, -10, 16, 100, 255, 256, 1 << 32, math.MinInt, math.MaxInt} {
		if r, e := c.Round(i); r != (api.Key{}) || e != api.ErrArg {
			t.Errorf("Round(%d) is %x, error %d; want ErrArg", i, r, e)
		}
	}
	if got, want := c.Lock(sample(2)), libraryLock(t, sample(1), sample(2)); got != want {
		t.Errorf("behind errors, Lock is %x, want %x", got, want)
	}
}

func TestRoundInAnyOrder(t *testing.T) {
	key := sample(9)
	inOrder := New(key)
	var want [11]api.Key
	for i := range want {
		want[i], _ = inOrder.Round(i)
	}
	for from := range want {
		c := New(key)
		for k := range want {
			i := (from + 7*k) % len(want)
			if r, e := c.Round(i); r != want[i] || e != api.OK {
				t.Errorf("round key %d, asked for as number %d, is %x, error %d; want %x", i, k, r, e, want[i])
			}
		}
	}
}

// P4.2's way: round keys are made when they are needed, and never again.

func TestRoundKeysAreMadeOnce(t *testing.T) {
	for name, ask := range map[string]func(*Cipher){
		"Lock":  func(c *Cipher) { c.Lock(api.Key{}) },
		"Open":  func(c *Cipher) { c.Open(api.Key{}) },
		"Round": func(c *Cipher) { c.Round(10) },
	} {
		c := New(sample(3))
		c.Round(11)
		if c.rounds[10] != (api.Key{}) {
			t.Errorf("%s: round keys are made ahead of their need", name)
		}
		ask(c)
		if c.rounds[10] == (api.Key{}) {
			t.Errorf("%s made no round keys", name)
		}
		c.rounds[10] = api.Key{1, 2, 3}
		ask(c)
		if c.rounds[10] != (api.Key{1, 2, 3}) {
			t.Errorf("%s made the round keys again", name)
		}
	}
}

func TestManyAskAtOnce(t *testing.T) {
	key, block := sample(5), sample(6)
	want := libraryLock(t, key, block)
	c := New(key)
	var got [16]api.Key
	var all sync.WaitGroup
	for i := range got {
		all.Go(func() { got[i] = c.Lock(block) })
	}
	all.Wait()
	for i, x := range got {
		if x != want {
			t.Errorf("number %d got %x, want %x", i, x, want)
		}
	}
}

// P4.3

func TestLockAndOpenKnown(t *testing.T) {
	for _, x := range []struct{ key, block, locked string }{
		{"000102030405060708090a0b0c0d0e0f", "00112233445566778899aabbccddeeff", "69c4e0d86a7b0430d8cdb78070b4c55a"},
		{"2b7e151628aed2a6abf7158809cf4f3c", "3243f6a8885a308d313198a2e0370734", "3925841d02dc09fbdc118597196a0b32"},
		{"2b7e151628aed2a6abf7158809cf4f3c", "6bc1bee22e409f96e93d7e117393172a", "3ad77bb40d7a3660a89ecaf32466ef97"},
		{"00000000000000000000000000000000", "00000000000000000000000000000000", "66e94bd4ef8a2c3b884cfa59ca342b2e"},
	} {
		key, block, locked := keyOf(t, x.key), keyOf(t, x.block), keyOf(t, x.locked)
		if got := New(key).Lock(block); got != locked {
			t.Errorf("Lock of %s by %s is %x, want %s", x.block, x.key, got, x.locked)
		}
		if got := New(key).Open(locked); got != block {
			t.Errorf("Open of %s by %s is %x, want %s", x.locked, x.key, got, x.block)
		}
	}
}

func TestLockAndOpenAsTheLibrary(t *testing.T) {
	check := func(c *Cipher, key, block api.Key) {
		if got, want := c.Lock(block), libraryLock(t, key, block); got != want {
			t.Fatalf("Lock of %x by %x is %x, want %x", block, key, got, want)
		}
		if got, want := c.Open(block), libraryOpen(t, key, block); got != want {
			t.Fatalf("Open of %x by %x is %x, want %x", block, key, got, want)
		}
	}
	one := sample(1)
	c := New(one)
	for _, x := range edges() {
		check(New(x), x, one)
		check(c, one, x)
	}
	key, block := sample(2), sample(3)
	for range 1000 {
		check(New(key), key, block)
		key, block = libraryLock(t, block, key), libraryLock(t, key, block)
	}
}

func TestLockHangsOnEachBit(t *testing.T) {
	key, block := sample(10), sample(11)
	was := New(key).Lock(block)
	for bit := range 128 {
		otherKey, otherBlock := key, block
		otherKey[bit/8] ^= 1 << (bit % 8)
		otherBlock[bit/8] ^= 1 << (bit % 8)
		if n := unlike(was, New(otherKey).Lock(block)); n < 32 {
			t.Errorf("bit %d of the key turns %d bits alone", bit, n)
		}
		if n := unlike(was, New(key).Lock(otherBlock)); n < 32 {
			t.Errorf("bit %d of the block turns %d bits alone", bit, n)
		}
	}
}

// unlike counts the bits in which both differ.
func unlike(a, b api.Key) int {
	n := 0
	for i := range a {
		n += bits.OnesCount8(a[i] ^ b[i])
	}
	return n
}

// P4.4

func TestEachBlockFromOne(t *testing.T) {
	for from := range 20 {
		c := New(sample(from))
		seen := make(map[api.Key]api.Key)
		for _, block := range append(edges(), sample(from), sample(from+1)) {
			locked := c.Lock(block)
			if was, ok := seen[locked]; ok && was != block {
				t.Fatalf("%x is the Lock of %x and of %x", locked, was, block)
			}
			seen[locked] = block
			if got := c.Open(locked); got != block {
				t.Fatalf("Open of Lock of %x is %x", block, got)
			}
			if got := c.Lock(c.Open(block)); got != block {
				t.Fatalf("Lock of Open of %x is %x", block, got)
			}
		}
	}
}

func TestEachByteFromOne(t *testing.T) {
	var from [256]int
	for x := range from {
		from[Box(byte(x))]++
	}
	for x, n := range from {
		if n != 1 {
			t.Errorf("%#x is the Box of %d bytes", x, n)
		}
	}
}

// R4 and R5

func TestCiphersAreApart(t *testing.T) {
	key, other, block := sample(1), sample(2), sample(3)
	c := New(key)
	first := c.Lock(block)
	New(other).Lock(block)
	c.Open(other)
	r, _ := c.Round(4)
	kept := r
	r[0] ^= 0xff
	if again, _ := c.Round(4); again != kept {
		t.Error("writing over a round key changes it")
	}
	key[0] ^= 0xff
	if c.Lock(block) != first {
		t.Error("Lock hangs on what was asked for ahead of it, or on what became of the key")
	}
	if block != sample(3) || other != sample(2) {
		t.Error("what was handed in is changed")
	}
}
