package field

import (
	"math"
	"slices"
	"strings"
	"testing"

	"oblivion/api"
)

// behind: what may stand behind a thing that is taken.
var behind = []string{"", "\x00", "+", "\xff\xff\xff", strings.Repeat("z", 2000)}

// lengths: the edges of a text's length, and of its two bytes.
var lengths = []int{0, 1, 2, 15, 16, 17, 254, 255, 256, 257, 511, 512, 999, 1000}

// sample makes a text of n bytes in which neighbours differ, so that a shifted or turned text shows.
func sample(n, from int) string {
	b := make([]byte, n)
	for i := range b {
		b[i] = byte(from + 7*i + i/251)
	}
	return string(b)
}

// words goes through all texts over the letters, up to that length.
func words(letters string, most int, yield func(string)) {
	layer := []string{""}
	for n := 0; ; n++ {
		for _, w := range layer {
			yield(w)
		}
		if n == most {
			return
		}
		var next []string
		for _, w := range layer {
			for i := range len(letters) {
				next = append(next, w+letters[i:i+1])
			}
		}
		layer = next
	}
}

func mustNumber(t *testing.T, n uint64, width int) string {
	t.Helper()
	s, e := Number(n, width)
	if e != api.OK {
		t.Fatalf("Number(%d, %d): error %d", n, width, e)
	}
	return s
}

func mustText(t *testing.T, s string) string {
	t.Helper()
	out, e := Text(s)
	if e != api.OK {
		t.Fatalf("Text of %d bytes: error %d", len(s), e)
	}
	return out
}

func mustList(t *testing.T, l []string) string {
	t.Helper()
	out, e := List(l)
	if e != api.OK {
		t.Fatalf("List of %d texts: error %d", len(l), e)
	}
	return out
}

// P1.1

func TestNumberBytes(t *testing.T) {
	for _, x := range []struct {
		n     uint64
		width int
		want  string
	}{
		{258, 2, "\x02\x01"},
		{0, 1, "\x00"},
		{255, 1, "\xff"},
		{0, 8, "\x00\x00\x00\x00\x00\x00\x00\x00"},
		{7, 3, "\x07\x00\x00"},
		{128, 2, "\x80\x00"},
		{256, 2, "\x00\x01"},
		{65535, 2, "\xff\xff"},
		{0x030201, 3, "\x01\x02\x03"},
		{0x04030201, 4, "\x01\x02\x03\x04"},
		{0x0504030201, 5, "\x01\x02\x03\x04\x05"},
		{0x060504030201, 6, "\x01\x02\x03\x04\x05\x06"},
		{0x07060504030201, 7, "\x01\x02\x03\x04\x05\x06\x07"},
		{0x0807060504030201, 8, "\x01\x02\x03\x04\x05\x06\x07\x08"},
		{math.MaxUint64, 8, "\xff\xff\xff\xff\xff\xff\xff\xff"},
		{1 << 63, 8, "\x00\x00\x00\x00\x00\x00\x00\x80"},
	} {
		if s, e := Number(x.n, x.width); s != x.want || e != api.OK {
			t.Errorf("Number(%d, %d) = %q, %d; want %q", x.n, x.width, s, e, x.want)
		}
	}
}

func TestNumberEdges(t *testing.T) {
	for width := 1; width <= 7; width++ {
		first := uint64(1) << (8 * width)
		if s, e := Number(first-1, width); s != strings.Repeat("\xff", width) || e != api.OK {
			t.Errorf("the greatest of width %d: %q, %d", width, s, e)
		}
		for _, n := range []uint64{first, first + 1, first << 1, math.MaxUint64} {
			if n < first {
				continue // shifted out
			}
			if s, e := Number(n, width); s != "" || e != api.ErrArg {
				t.Errorf("Number(%d, %d) = %q, %d; want ErrArg", n, width, s, e)
			}
		}
	}
}

func TestWidthsThatAreNone(t *testing.T) {
	for _, width := range []int{0, 9, 10, 16, 64, -1, -2, -8, 256, 257, 1 << 32, math.MaxInt, math.MinInt, math.MinInt + 1} {
		for _, n := range []uint64{0, 1, 255, math.MaxUint64} {
			if s, e := Number(n, width); s != "" || e != api.ErrArg {
				t.Errorf("Number(%d, %d) = %q, %d; want ErrArg", n, width, s, e)
			}
		}
		// ErrArg is named ahead of ErrShort: the empty text has both.
		for _, s := range []string{"", "a", strings.Repeat("x", 300)} {
			if n, rest, e := TakeNumber(s, width); n != 0 || rest != "" || e != api.ErrArg {
				t.Errorf("TakeNumber of %d bytes, %d = %d, %q, %d; want ErrArg", len(s), width, n, rest, e)
			}
		}
	}
}

func TestTakeNumber(t *testing.T) {
	const bytes = "\x01\x02\x03\x04\x05\x06\x07\x88"
	wants := []uint64{0x01, 0x0201, 0x030201, 0x04030201, 0x0504030201, 0x060504030201, 0x07060504030201, 0x8807060504030201}
	for i, want := range wants {
		width := i + 1
		if n, rest, e := TakeNumber(bytes, width); n != want || rest != bytes[width:] || e != api.OK {
			t.Errorf("width %d: %x, %q, %d", width, n, rest, e)
		}
		for have := range width {
			if n, rest, e := TakeNumber(bytes[:have], width); n != 0 || rest != "" || e != api.ErrShort {
				t.Errorf("width %d of %d bytes: %x, %q, %d; want ErrShort", width, have, n, rest, e)
			}
		}
	}
}

// P1.2

func TestTextBytes(t *testing.T) {
	for _, n := range lengths {
		s := sample(n, 3)
		want := string([]byte{byte(n % 256), byte(n / 256)}) + s
		if out, e := Text(s); out != want || e != api.OK {
			t.Errorf("Text of %d bytes: %d bytes, %d", n, len(out), e)
		}
	}
	// Lengths are of bytes, not of letters, and bytes that are no letters stay.
	for s, want := range map[string]string{"": "\x00\x00", "ab": "\x02\x00ab", "ä": "\x02\x00\xc3\xa4", "\xff\x00": "\x02\x00\xff\x00"} {
		if out, e := Text(s); out != want || e != api.OK {
			t.Errorf("Text(%q) = %q, %d", s, out, e)
		}
	}
}

func TestTextTooWide(t *testing.T) {
	for _, n := range []int{1001, 1002, 1256, 65535, 65536, 65537, 70000} {
		if out, e := Text(sample(n, 0)); out != "" || e != api.ErrWide {
			t.Errorf("Text of %d bytes: %d bytes, %d; want ErrWide", n, len(out), e)
		}
	}
	if out, e := Text(strings.Repeat("ä", 501)); out != "" || e != api.ErrWide {
		t.Errorf("501 letters of two bytes: %d bytes, %d; want ErrWide", len(out), e)
	}
}

func TestTakeText(t *testing.T) {
	for _, n := range lengths {
		s := sample(n, 9)
		head := string([]byte{byte(n % 256), byte(n / 256)})
		if text, rest, e := TakeText(head + s + "+-"); text != s || rest != "+-" || e != api.OK {
			t.Errorf("%d bytes: %d, %q, %d", n, len(text), rest, e)
		}
		if n == 0 {
			continue
		}
		for _, have := range []int{0, n / 2, n - 1} {
			if text, rest, e := TakeText(head + s[:have]); text != "" || rest != "" || e != api.ErrShort {
				t.Errorf("%d bytes of %d: %q, %q, %d; want ErrShort", have, n, text, rest, e)
			}
		}
	}
}

func TestTakeTextErrors(t *testing.T) {
	for _, x := range []struct {
		name, s string
		want    api.Errno
	}{
		{"nothing", "", api.ErrShort},
		{"half a length", "\x00", api.ErrShort},
		{"half a length that would be too wide", "\xff", api.ErrShort},
		{"1000 and nothing behind", "\xe8\x03", api.ErrShort},
		// ErrWide is named ahead of the text's ErrShort.
		{"1001 and nothing behind", "\xe9\x03", api.ErrWide},
		{"1001 and all behind", "\xe9\x03" + sample(1001, 0), api.ErrWide},
		{"1024", "\x00\x04" + sample(1024, 0), api.ErrWide},
		{"65535", "\xff\xff", api.ErrWide},
		{"65535 and all behind", "\xff\xff" + sample(65535, 0), api.ErrWide},
	} {
		if text, rest, e := TakeText(x.s); text != "" || rest != "" || e != x.want {
			t.Errorf("%s: %d, %d, error %d; want %d", x.name, len(text), len(rest), e, x.want)
		}
	}
}

func TestTakeKey(t *testing.T) {
	s := sample(40, 200)
	var want api.Key
	copy(want[:], s)
	for n := range 16 {
		if k, rest, e := TakeKey(s[:n]); k != (api.Key{}) || rest != "" || e != api.ErrShort {
			t.Errorf("%d bytes: %v, %q, %d; want ErrShort", n, k, rest, e)
		}
	}
	for _, n := range []int{16, 17, 31, 32, 40} {
		if k, rest, e := TakeKey(s[:n]); k != want || rest != s[16:n] || e != api.OK {
			t.Errorf("%d bytes: %v, %q, %d", n, k, rest, e)
		}
	}
}

// P1.3

func TestListBytes(t *testing.T) {
	for _, x := range []struct {
		l    []string
		want string
	}{
		{nil, "\x00"},
		{[]string{}, "\x00"},
		{[]string{""}, "\x01\x00\x00"},
		{[]string{"a", "", "bc"}, "\x03\x01\x00a\x00\x00\x02\x00bc"},
		{[]string{"bc", "", "a"}, "\x03\x02\x00bc\x00\x00\x01\x00a"},
		{[]string{"a", "a"}, "\x02\x01\x00a\x01\x00a"},
		{[]string{sample(1000, 1)}, "\x01\xe8\x03" + sample(1000, 1)},
	} {
		if s, e := List(x.l); s != x.want || e != api.OK {
			t.Errorf("List(%q) = %q, %d", x.l, s, e)
		}
	}
}

func TestListEdges(t *testing.T) {
	full := slices.Repeat([]string{"q"}, 255)
	if s, e := List(full); s != "\xff"+strings.Repeat("\x01\x00q", 255) || e != api.OK {
		t.Errorf("255 texts: %d bytes, %d", len(s), e)
	}
	for _, n := range []int{256, 257, 300, 511, 512, 1000} {
		if s, e := List(slices.Repeat([]string{"q"}, n)); s != "" || e != api.ErrWide {
			t.Errorf("%d texts: %d bytes, %d; want ErrWide", n, len(s), e)
		}
	}
	for at := range 3 {
		l := []string{"a", "b", "c"}
		l[at] = sample(1000, at)
		if s, e := List(l); len(s) != 1+2*3+1000+2 || e != api.OK {
			t.Errorf("1000 bytes at %d: %d bytes, %d", at, len(s), e)
		}
		l[at] += "x"
		if s, e := List(l); s != "" || e != api.ErrWide {
			t.Errorf("1001 bytes at %d: %d bytes, %d; want ErrWide", at, len(s), e)
		}
	}
}

func TestTakeList(t *testing.T) {
	for _, x := range []struct {
		s    string
		want []string
		rest string
	}{
		{"\x00", nil, ""},
		{"\x00\x01\x00a", nil, "\x01\x00a"},
		{"\x01\x00\x00", []string{""}, ""},
		{"\x01\x01\x00ab", []string{"a"}, "b"},
		{"\x03\x01\x00a\x00\x00\x02\x00bcz", []string{"a", "", "bc"}, "z"},
		{"\xff" + strings.Repeat("\x01\x00q", 256), slices.Repeat([]string{"q"}, 255), "\x01\x00q"},
	} {
		if l, rest, e := TakeList(x.s); !slices.Equal(l, x.want) || rest != x.rest || e != api.OK {
			t.Errorf("TakeList(%q) = %q, %q, %d", x.s, l, rest, e)
		}
	}
}

func TestTakeListErrors(t *testing.T) {
	const whole = "\x03\x01\x00a\x00\x00\x02\x00bc"
	for n := range len(whole) {
		if l, rest, e := TakeList(whole[:n]); len(l) != 0 || rest != "" || e != api.ErrShort {
			t.Errorf("%d bytes: %q, %q, %d; want ErrShort", n, l, rest, e)
		}
	}
	for _, x := range []struct {
		name, s string
		want    api.Errno
	}{
		{"255 of which 254 are there", "\xff" + strings.Repeat("\x00\x00", 254), api.ErrShort},
		{"a first text that is too wide", "\x02\xe9\x03" + sample(1001, 0) + "\x00\x00", api.ErrWide},
		{"a later text that is too wide", "\x02\x01\x00a\xff\xff", api.ErrWide},
		{"too wide, and then too short", "\x02\xe9\x03", api.ErrWide},
		{"too short, of bytes that would be too wide further on", "\x02\x05\x00\xe9\x03", api.ErrShort},
	} {
		if l, rest, e := TakeList(x.s); len(l) != 0 || rest != "" || e != x.want {
			t.Errorf("%s: %q, %q, error %d; want %d", x.name, l, rest, e, x.want)
		}
	}
}

// P1.4: what was written is taken back, whatever is behind it.

func TestNumbersComeBack(t *testing.T) {
	for width := 1; width <= 8; width++ {
		numbers := []uint64{0, 1, 2, 127, 128, 255}
		for bit := range 8 * width {
			one := uint64(1) << bit
			numbers = append(numbers, one, one-1, one|1, one|(one-1))
		}
		for _, n := range numbers {
			s := mustNumber(t, n, width)
			for _, b := range behind {
				if m, rest, e := TakeNumber(s+b, width); m != n || rest != b || e != api.OK {
					t.Errorf("%d of width %d: %d, %d", n, width, m, e)
				}
			}
		}
	}
}

func TestTextsComeBack(t *testing.T) {
	for n := 0; n <= api.MaxText; n++ {
		s := sample(n, n)
		out := mustText(t, s)
		for _, b := range behind {
			if text, rest, e := TakeText(out + b); text != s || rest != b || e != api.OK {
				t.Errorf("%d bytes: %d, %d, error %d", n, len(text), len(rest), e)
			}
		}
	}
}

func TestKeysComeBack(t *testing.T) {
	for from := range 256 {
		s := sample(16, from)
		for _, b := range behind {
			if k, rest, e := TakeKey(s + b); string(k[:]) != s || rest != b || e != api.OK {
				t.Errorf("%q: %v, %d, error %d", s, k, len(rest), e)
			}
		}
	}
}

func TestListsComeBack(t *testing.T) {
	for n := 0; n <= 255; n++ {
		var l []string
		for i := range n {
			l = append(l, sample((i*i+n)%40, i))
		}
		if n > 0 {
			l[n/2] = sample(1000, n)
		}
		out := mustList(t, l)
		for _, b := range behind {
			if m, rest, e := TakeList(out + b); !slices.Equal(m, l) || rest != b || e != api.OK {
				t.Errorf("%d texts: %d, %d, error %d", n, len(m), len(rest), e)
			}
		}
	}
}

// P1.4: bytes that are taken are written so.

func TestTakenBytesAreWrittenSo(t *testing.T) {
	words("\x00\x01\x02\x03\xe8\xff", 7, func(s string) {
		for _, width := range []int{1, 2, 3, 7, 8} {
			n, rest, e := TakeNumber(s, width)
			if (e == api.OK) != (len(s) >= width) || e == api.OK && mustNumber(t, n, width)+rest != s {
				t.Fatalf("number of %d at %q: %d, %q, %d", width, s, n, rest, e)
			}
		}
		if text, rest, e := TakeText(s); e == api.OK && mustText(t, text)+rest != s {
			t.Fatalf("text at %q: %q, %q", s, text, rest)
		}
		if l, rest, e := TakeList(s); e == api.OK && mustList(t, l)+rest != s {
			t.Fatalf("list at %q: %q, %q", s, l, rest)
		}
	})
}

// R4: nothing that is handed in is changed, and writing over an answer changes nothing.

func TestListsAreNotShared(t *testing.T) {
	l := []string{"a", "bc", ""}
	s := mustList(t, l)
	if !slices.Equal(l, []string{"a", "bc", ""}) {
		t.Errorf("List changed what it was given: %q", l)
	}
	first, _, _ := TakeList(s)
	first[0] = "over"
	second, rest, e := TakeList(s)
	if !slices.Equal(second, l) || rest != "" || e != api.OK {
		t.Errorf("taken again: %q, %q, %d", second, rest, e)
	}
}

// R1 and R3: no call panics, and beside an error stand zero values alone.

func TestErrorsStandAlone(t *testing.T) {
	words("\x00\x01\x04\xff", 6, func(s string) {
		for width := -2; width <= 10; width++ {
			if n, rest, e := TakeNumber(s, width); e != api.OK && (n != 0 || rest != "") {
				t.Fatalf("TakeNumber(%q, %d) = %d, %q, %d", s, width, n, rest, e)
			}
		}
		if text, rest, e := TakeText(s); e != api.OK && (text != "" || rest != "") {
			t.Fatalf("TakeText(%q) = %q, %q, %d", s, text, rest, e)
		}
		if l, rest, e := TakeList(s); e != api.OK && (len(l) != 0 || rest != "") {
			t.Fatalf("TakeList(%q) = %q, %q, %d", s, l, rest, e)
		}
		if k, rest, e := TakeKey(s); e != api.ErrShort || k != (api.Key{}) || rest != "" {
			t.Fatalf("TakeKey(%q) = %v, %q, %d", s, k, rest, e)
		}
	})
}
