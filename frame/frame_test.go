package frame

import (
	"crypto/sha256"
	"encoding/binary"
	"encoding/hex"
	"math"
	"math/rand"
	"strings"
	"testing"

	"oblivion/api"
)

// sample makes a text of n bytes in which neighbours differ, so that a shifted or turned text shows.
func sample(n, from int) string {
	b := make([]byte, n)
	for i := range b {
		b[i] = byte(from + 7*i + i/251)
	}
	return string(b)
}

func zeros(n int) string {
	return strings.Repeat("\x00", n)
}

func kinds() []byte {
	return []byte{1, 2, 7, 127, 128, 254, 255}
}

func seqs() []uint64 {
	return []uint64{0, 1, 255, 256, 259, 1 << 32, 0x0102030405060708, 1 << 63, math.MaxUint64}
}

// frames are some of all kinds, with texts of all lengths that have room.
func frames() []Frame {
	var out []Frame
	for n := range 230 {
		kind, seq := kinds()[n%len(kinds())], seqs()[n%len(seqs())]
		out = append(out, Frame{kind, seq, sample(n, n)}, Frame{kind, seq, zeros(n)})
	}
	for _, kind := range kinds() {
		for _, seq := range seqs() {
			out = append(out, Frame{kind, seq, "a"})
		}
	}
	return append(out, Frame{1, 1, "\x00a"}, Frame{1, 1, "a\x00"}, Frame{1, 1, "\xff\xfe"}, Frame{1, 1, "ä"})
}

// headOf is what is ahead of a text, also of one that no page has.
func headOf(kind byte, seq uint64, length int) string {
	b := binary.LittleEndian.AppendUint64([]byte{kind}, seq)
	return string(binary.LittleEndian.AppendUint16(b, uint16(length)))
}

// closed lays the library's sum behind what is ahead, whatever that is.
func closed(ahead string) string {
	h := sha256.Sum256([]byte(ahead))
	return ahead + string(h[:16])
}

// plainPut is a page as the chapter's words lay it out.
func plainPut(f Frame) string {
	ahead := headOf(f.Kind, f.Seq, len(f.Text)) + f.Text
	return closed(ahead + zeros(240-len(ahead)))
}

func mustPut(t *testing.T, f Frame) string {
	t.Helper()
	page, e := Put(f)
	if e != api.OK || len(page) != 256 {
		t.Fatalf("Put of kind %d, %d bytes: %d bytes, %d", f.Kind, len(f.Text), len(page), e)
	}
	return page
}

func wantNoPut(t *testing.T, f Frame, want api.Errno) {
	t.Helper()
	if page, e := Put(f); page != "" || e != want {
		t.Errorf("Put of kind %d, %d bytes: %d bytes, %d, want error %d", f.Kind, len(f.Text), len(page), e, want)
	}
}

func wantGot(t *testing.T, page string, want Frame) {
	t.Helper()
	if f, e := Get(page); f != want || e != api.OK {
		t.Errorf("Get of %x is %v, %d, want %v", page, f, e, want)
	}
}

func wantTorn(t *testing.T, page string) {
	t.Helper()
	if f, e := Get(page); f != (Frame{}) || e != api.ErrTorn {
		t.Errorf("Get of %d bytes %x is %v, %d, want ErrTorn", len(page), page, f, e)
	}
}

func TestErrors(t *testing.T) {
	if api.ErrArg != 1 || api.ErrWide != 11 || api.ErrTorn != 120 {
		t.Error("other numbers")
	}
}

// P12.1

func TestRoom(t *testing.T) {
	if Room() != 229 {
		t.Errorf("Room is %d", Room())
	}
}

// The sums were reckoned by another program than this one and the library.
func knownPages() []struct {
	f    Frame
	head string
	sum  string
} {
	return []struct {
		f    Frame
		head string
		sum  string
	}{
		{Frame{1, 0, ""}, "01" + "0000000000000000" + "0000", "91ae6ccc161b4de4dbf0be7ec736f437"},
		{Frame{2, 259, "ab"}, "02" + "0301000000000000" + "0200", "e4f13839b33a11ccc951c56d9459170e"},
		{Frame{255, math.MaxUint64, strings.Repeat("\xff", 229)}, "ff" + "ffffffffffffffff" + "e500", "4169acba9311d1e178788a9e4470995c"},
		{Frame{7, 0x0102030405060708, "what do ya want for nothing?"}, "07" + "0807060504030201" + "1c00", "10e61bc3f178d2c9004e667690f5c491"},
	}
}

func TestKnownPages(t *testing.T) {
	for _, x := range knownPages() {
		want := x.head + hex.EncodeToString([]byte(x.f.Text+zeros(229-len(x.f.Text)))) + x.sum
		page := mustPut(t, x.f)
		if got := hex.EncodeToString([]byte(page)); got != want {
			t.Errorf("kind %d:\n%s, want\n%s", x.f.Kind, got, want)
		}
		wantGot(t, page, x.f)
	}
}

func TestPutAsThePlainForm(t *testing.T) {
	for _, f := range frames() {
		if page := mustPut(t, f); page != plainPut(f) {
			t.Errorf("kind %d, seq %d, %d bytes: %x", f.Kind, f.Seq, len(f.Text), page)
		}
	}
}

func TestPutRoomEdges(t *testing.T) {
	longest := strings.Repeat("ä", 114) + "a"
	for _, text := range []string{sample(228, 1), sample(229, 1), zeros(229), longest} {
		page := mustPut(t, Frame{1, 1, text})
		if page[11:11+len(text)] != text {
			t.Errorf("%d bytes: %x", len(text), page)
		}
	}
	// The room is of bytes, not of letters: these are 115.
	wantNoPut(t, Frame{1, 1, longest[:228] + "ä"}, api.ErrWide)
}

func TestPutTooWide(t *testing.T) {
	// The last ones have a length whose lower bytes alone would be one that has room.
	for _, n := range []int{230, 231, 239, 240, 241, 245, 255, 256, 257, 300, 1000, 1001, 1500, 3000, 65535, 65536, 65538, 1 << 20} {
		for _, text := range []string{sample(n, 3), zeros(n)} {
			wantNoPut(t, Frame{1, 1, text}, api.ErrWide)
			wantNoPut(t, Frame{255, math.MaxUint64, text}, api.ErrWide)
		}
	}
}

// ErrArg is named ahead of ErrWide.
func TestPutKindZero(t *testing.T) {
	for _, n := range []int{0, 1, 229, 230, 256, 3000, 65536} {
		for _, seq := range seqs() {
			wantNoPut(t, Frame{0, seq, sample(n, 1)}, api.ErrArg)
		}
	}
}

// P12.2

func TestGetAsThePlainForm(t *testing.T) {
	for _, f := range frames() {
		wantGot(t, plainPut(f), f)
	}
}

func TestGetOfOtherLengths(t *testing.T) {
	long := strings.Repeat(plainPut(Frame{3, 5, "abc"}), 12)
	for n := range len(long) + 1 {
		if n != 256 {
			wantTorn(t, long[:n])
		}
	}
	for _, n := range []int{1, 11, 12, 15, 16, 17, 27, 240, 255, 256, 257, 512, 1500, 3000} {
		wantTorn(t, zeros(n))
		wantTorn(t, strings.Repeat("\xff", n))
	}
}

// What has another length is torn for that alone: its sum is the one of all that is ahead.
func TestGetOfOtherLengthsWithTheirSums(t *testing.T) {
	for n := range 600 {
		for _, f := range []Frame{{1, 0, ""}, {3, 5, "abc"}} {
			ahead := headOf(f.Kind, f.Seq, len(f.Text)) + f.Text + zeros(600)
			if n == 240 {
				wantGot(t, closed(ahead[:n]), f)
				continue
			}
			wantTorn(t, closed(ahead[:n]))
		}
	}
	wantTorn(t, plainPut(Frame{1, 0, ""})+"\x00")
	wantTorn(t, "\x00"+plainPut(Frame{1, 0, ""}))
}

func TestGetKindZero(t *testing.T) {
	for _, seq := range seqs() {
		for _, n := range []int{0, 1, 100, 229} {
			wantTorn(t, plainPut(Frame{0, seq, sample(n, 1)}))
		}
	}
}

// A length that goes beyond what is there: beyond the room, and still inside of the page, or not.
func TestGetLengthBeyond(t *testing.T) {
	for length := 230; length <= math.MaxUint16; length++ {
		if length > 600 && length%97 != 0 && length < math.MaxUint16-3 {
			continue
		}
		for _, behind := range []string{zeros(229), sample(229, length)} {
			wantTorn(t, closed(headOf(1, 1, length)+behind))
		}
	}
}

func TestGetBytesBehindTheText(t *testing.T) {
	for n := range 229 {
		f := Frame{1, 1, sample(n, n+1)}
		ahead := []byte(plainPut(f)[:240])
		for at := 11 + n; at < 240; at++ {
			ahead[at] = byte(1 + (at+n)%255)
			wantTorn(t, closed(string(ahead)))
			ahead[at] = 0
		}
		wantGot(t, closed(string(ahead)), f)
	}
	ahead := []byte(plainPut(Frame{1, 1, "ab"})[:240])
	for b := 1; b <= 255; b++ {
		for _, at := range []int{13, 100, 239} {
			ahead[at] = byte(b)
			wantTorn(t, closed(string(ahead)))
			ahead[at] = 0
		}
	}
}

func TestGetOtherSums(t *testing.T) {
	for _, f := range []Frame{{1, 0, ""}, {2, 259, "ab"}, {255, math.MaxUint64, sample(229, 9)}} {
		page := plainPut(f)
		ahead := page[:240]
		h := sha256.Sum256([]byte(ahead))
		other := sha256.Sum256([]byte(ahead[:239]))
		whole := sha256.Sum256([]byte(page))
		for _, sum := range []string{
			zeros(16), strings.Repeat("\xff", 16), string(h[16:]), string(h[8:24]), string(other[:16]), string(whole[:16]),
			string(h[:8]) + zeros(8), zeros(8) + string(h[8:16]), string(h[:15]) + string([]byte{h[15] + 1}),
		} {
			wantTorn(t, ahead+sum)
		}
		wantGot(t, page, f)
	}
}

func TestGetAnyBitTurned(t *testing.T) {
	for _, f := range []Frame{{1, 0, ""}, {2, 259, "ab"}, {255, math.MaxUint64, sample(229, 9)}} {
		page := []byte(plainPut(f))
		for bit := range 8 * len(page) {
			page[bit/8] ^= 1 << (bit % 8)
			wantTorn(t, string(page))
			page[bit/8] ^= 1 << (bit % 8)
		}
		wantGot(t, string(page), f)
	}
}

// Pages of any bytes with their sums: there is a frame just where there is one whose page by the plain form that is.
func TestGetOfAnyPages(t *testing.T) {
	r := rand.New(rand.NewSource(12))
	got := 0
	for range 20000 {
		length, n := r.Intn(260), r.Intn(230)
		if r.Intn(3) > 0 {
			length = n
		}
		ahead := headOf(byte(r.Intn(4)), r.Uint64(), length) + sample(n, r.Intn(256))
		page := closed(ahead + zeros(240-len(ahead)))
		want := Frame{page[0], binary.LittleEndian.Uint64([]byte(page[1:9])), ""}
		if length <= 229 {
			want.Text = page[11 : 11+length]
		}
		if want.Kind == 0 || length > 229 || plainPut(want) != page {
			wantTorn(t, page)
			continue
		}
		wantGot(t, page, want)
		got++
	}
	if got == 0 || got == 20000 {
		t.Errorf("%d pages of frames", got)
	}
}

// P12.3

func TestPutIsGot(t *testing.T) {
	for _, f := range frames() {
		page := mustPut(t, f)
		wantGot(t, page, f)
		wantGot(t, page, f)
		if again := mustPut(t, f); again != page {
			t.Errorf("kind %d, seq %d, %d bytes: another page", f.Kind, f.Seq, len(f.Text))
		}
	}
}

func TestNoTwoFramesOnePage(t *testing.T) {
	all := map[string]Frame{}
	for _, f := range frames() {
		page := mustPut(t, f)
		if other, had := all[page]; had && other != f {
			t.Errorf("%v and %v have one page", f, other)
		}
		all[page] = f
	}
}

// A page that is cut at a place, and has one byte from there on: as the medium leaves it, when the power goes.
func TestCutAndFilledWithAByte(t *testing.T) {
	for _, f := range []Frame{{1, 0, ""}, {2, 259, "ab"}, {9, 1 << 40, sample(100, 5)}, {255, math.MaxUint64, sample(229, 9)}} {
		page := mustPut(t, f)
		for at := range 256 {
			for _, junk := range []byte{0, 1, 0x7f, 0x80, 0xff, page[at] + 1} {
				filled := page[:at] + strings.Repeat(string([]byte{junk}), 256-at)
				if filled != page {
					wantTorn(t, filled)
				}
			}
		}
	}
}

func TestCutAndFilledWithAnotherPage(t *testing.T) {
	old := []Frame{{1, 0, ""}, {2, 259, "ab"}, {2, 260, "ab"}, {2, 259, "ac"}, {255, math.MaxUint64, sample(229, 9)}}
	for _, f := range old {
		for _, g := range old {
			first, second := mustPut(t, f), mustPut(t, g)
			for at := range 257 {
				mixed := first[:at] + second[at:]
				if mixed != first && mixed != second {
					wantTorn(t, mixed)
				}
			}
		}
	}
}

func TestCutAndFilledWithAnyBytes(t *testing.T) {
	r := rand.New(rand.NewSource(3))
	for _, f := range frames() {
		page := mustPut(t, f)
		for range 20 {
			at := r.Intn(256)
			b := []byte(page)
			for i := at; i < len(b); i++ {
				b[i] = byte(r.Intn(256))
			}
			if string(b) != page {
				wantTorn(t, string(b))
			}
		}
	}
}
