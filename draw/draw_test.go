package draw

import (
	"crypto/hmac"
	"crypto/sha256"
	"encoding/binary"
	"encoding/hex"
	"math"
	"slices"
	"sync"
	"testing"

	"oblivion/api"
)

// numbered makes n keys, all of them different in their last bytes alone.
func numbered(n int) []api.Key {
	l := make([]api.Key, n)
	for i := range l {
		binary.BigEndian.PutUint32(l[i][12:], uint32(i+1))
	}
	return l
}

// libraryKey is a key of From as the library's HMAC reckons it.
func libraryKey(number uint64) api.Key {
	m := hmac.New(sha256.New, make([]byte, 16))
	m.Write([]byte("\x04draw"))
	m.Write(binary.LittleEndian.AppendUint64(nil, number))
	return api.Key(m.Sum(nil)[:16])
}

func wantNext(t *testing.T, d *Draws, want api.Key) {
	t.Helper()
	if k, e := d.Next(); k != want || e != api.OK {
		t.Errorf("Next is %x, %d, want %x", k, e, want)
	}
}

func wantDry(t *testing.T, d *Draws) {
	t.Helper()
	if k, e := d.Next(); k != (api.Key{}) || e != api.ErrDry {
		t.Errorf("Next is %x, %d, want ErrDry", k, e)
	}
}

func wantState(t *testing.T, d *Draws, used []api.Key, left int) {
	t.Helper()
	if got := d.Left(); got != left {
		t.Errorf("Left is %d, want %d", got, left)
	}
	if got := d.Used(); !slices.Equal(got, used) {
		t.Errorf("Used is %x, want %x", got, used)
	}
}

// P7.1

func TestDrawsInOrder(t *testing.T) {
	same := api.Key{7}
	for name, l := range map[string][]api.Key{
		"none":        {},
		"nil":         nil,
		"one":         {{1}},
		"zeros":       {{}},
		"with zeros":  {{1}, {}, {2}, {}},
		"falling":     {{3}, {2}, {1}},
		"the same":    {same, same, same},
		"same again":  {{1}, {2}, {1}, {2}},
		"last byte":   {{15: 2}, {15: 1}, {15: 3}},
		"three score": numbered(60),
		"the most":    numbered(300),
		"more":        numbered(12000),
	} {
		t.Run(name, func(t *testing.T) {
			d := New(l)
			for i, want := range l {
				if i < 300 || i%1000 == 0 {
					wantState(t, d, l[:i], len(l)-i)
				}
				wantNext(t, d, want)
			}
			wantState(t, d, l, 0)
			wantDry(t, d)
		})
	}
}

func TestNextOfOneIsDryTheSecondTime(t *testing.T) {
	d := New([]api.Key{{9, 8}})
	wantNext(t, d, api.Key{9, 8})
	wantDry(t, d)
	if api.ErrDry != 70 {
		t.Errorf("ErrDry is %d", api.ErrDry)
	}
}

func TestDryStaysDry(t *testing.T) {
	for _, l := range [][]api.Key{nil, {}, {{1}}, {{}, {}}, numbered(20)} {
		d := New(l)
		for _, want := range l {
			wantNext(t, d, want)
		}
		for range 150 {
			wantDry(t, d)
			wantState(t, d, l, 0)
		}
		// R6: what is dry counts nothing, however often it is asked.
		if got := d.told.Load(); got != int64(len(l)) {
			t.Errorf("%d of %d keys count as told", got, len(l))
		}
	}
}

func TestAskingDrawsNothing(t *testing.T) {
	l := numbered(5)
	d := New(l)
	wantNext(t, d, l[0])
	wantNext(t, d, l[1])
	for range 10 {
		wantState(t, d, l[:2], 3)
	}
	wantNext(t, d, l[2])
}

func TestNewKeepsNoList(t *testing.T) {
	l := numbered(4)
	d := New(l[:3])
	for i := range l {
		l[i] = api.Key{99}
	}
	for i, want := range numbered(3) {
		wantNext(t, d, want)
		l[i] = api.Key{98}
	}
	wantDry(t, d)
	wantState(t, d, numbered(3), 0)
	if !slices.Equal(l, []api.Key{{98}, {98}, {98}, {99}}) {
		t.Errorf("the list that was handed in is now %x", l)
	}
}

func TestUsedIsNewMemory(t *testing.T) {
	l := numbered(4)
	d := New(l)
	wantNext(t, d, l[0])
	wantNext(t, d, l[1])
	used, again := d.Used(), d.Used()
	used[0], used[1] = api.Key{99}, api.Key{98}
	if !slices.Equal(again, numbered(2)) || !slices.Equal(l, numbered(4)) {
		t.Error("two answers of Used share memory, or one does with the list")
	}
	// What is laid behind an answer must not come into the keys that are still to be told.
	_ = append(again, api.Key{97}, api.Key{96})
	wantState(t, d, l[:2], 2)
	wantNext(t, d, l[2])
	if !slices.Equal(again, numbered(2)) {
		t.Error("an answer of Used changes when a key is drawn")
	}
	wantNext(t, d, l[3])
}

func TestDrawsOfOneListAreTheirOwn(t *testing.T) {
	l := numbered(3)
	a, b := New(l), New(l)
	wantNext(t, a, l[0])
	wantNext(t, a, l[1])
	wantState(t, b, nil, 3)
	wantNext(t, b, l[0])
	wantState(t, a, l[:2], 1)
	wantState(t, b, l[:1], 2)
	c := New(a.Used())
	wantState(t, c, nil, 2)
}

// P7.2

// The bytes were reckoned by other programs than this one and the library.
func knownKeys() map[uint64]string {
	return map[uint64]string{
		0:              "572b0a3c275ddaff4fa655b0908ce1dc",
		1:              "8194acdf3b20c083be5da867832a1e1c",
		258:            "6d1e553df8e00a281269d9dcb9880741",
		1 << 63:        "9d8d601f6045a7b178afbf6d88ba06d2",
		math.MaxUint64: "fca3951870f7b7d6b9d1b56ed7c735de",
	}
}

func TestFromKnown(t *testing.T) {
	for seed, want := range knownKeys() {
		l := From(seed, 1)
		if len(l) != 1 || hex.EncodeToString(l[0][:]) != want {
			t.Errorf("From(%d, 1) is %x, want %s", seed, l, want)
		}
	}
}

func TestFromSeeds(t *testing.T) {
	for _, seed := range []uint64{0, 1, 2, 255, 256, 1 << 31, 1<<32 - 1, 1 << 32, math.MaxInt64, 1 << 63, 0x0102030405060708, math.MaxUint64 - 299, math.MaxUint64 - 1, math.MaxUint64} {
		l := From(seed, 300)
		if len(l) != 300 {
			t.Fatalf("From(%d, 300) has %d keys", seed, len(l))
		}
		for i, k := range l {
			if want := libraryKey(seed + uint64(i)); k != want {
				t.Errorf("key %d of From(%d, 300) is %x, want %x", i, seed, k, want)
			}
		}
	}
}

func TestFromGoesRound(t *testing.T) {
	l := From(math.MaxUint64-1, 4)
	want := []api.Key{libraryKey(math.MaxUint64 - 1), libraryKey(math.MaxUint64), libraryKey(0), libraryKey(1)}
	if !slices.Equal(l, want) {
		t.Errorf("From is %x, want %x", l, want)
	}
}

func TestFromCounts(t *testing.T) {
	whole := From(5, 10000)
	if len(whole) != 10000 {
		t.Fatalf("From(5, 10000) has %d keys", len(whole))
	}
	for _, i := range []int{0, 1, 300, 9998, 9999} {
		if whole[i] != libraryKey(5+uint64(i)) {
			t.Errorf("key %d of From(5, 10000) is %x", i, whole[i])
		}
	}
	for n, want := range map[int]int{
		math.MinInt: 0, math.MinInt32: 0, -10000: 0, -2: 0, -1: 0,
		0: 0, 1: 1, 2: 2, 300: 300, 2000: 2000, 9999: 9999,
		10001: 10000, 65536: 10000, math.MaxInt32: 10000, math.MaxInt: 10000,
	} {
		if got := From(5, n); !slices.Equal(got, whole[:want]) {
			t.Errorf("From(5, %d) has %d keys, or others, want %d", n, len(got), want)
		}
	}
}

func TestFromIsNewMemory(t *testing.T) {
	first := From(3, 5)
	kept := slices.Clone(first)
	second := From(3, 5)
	clear(first)
	if !slices.Equal(second, kept) || !slices.Equal(From(3, 5), kept) {
		t.Error("answers of From share memory")
	}
}

func TestFromIsDrawn(t *testing.T) {
	l := From(8, 50)
	d := New(l)
	for i := range l {
		wantNext(t, d, libraryKey(8+uint64(i)))
	}
	wantDry(t, d)
}

func TestDistinct(t *testing.T) {
	for _, x := range []struct {
		l    []api.Key
		want bool
	}{
		{nil, true},
		{[]api.Key{}, true},
		{[]api.Key{{}}, true},
		{[]api.Key{{1}}, true},
		{[]api.Key{{}, {}}, false},
		{[]api.Key{{1}, {1}}, false},
		{[]api.Key{{1}, {2}}, true},
		{[]api.Key{{}, {1}, {2}, {}}, false},
		{[]api.Key{{1}, {2}, {1}}, false},
		{[]api.Key{{1}, {2}, {2}}, false},
		{[]api.Key{{3}, {1}, {2}}, true},
		{[]api.Key{{0: 1}, {15: 1}}, true},
		{[]api.Key{{15: 1}, {15: 2}}, true},
		{[]api.Key{{1}, {1}, {1}}, false},
		{numbered(300), true},
		{numbered(12000), true},
		{From(math.MaxUint64-100, 300), true},
		{append(From(1, 100), From(100, 1)...), false},
		{append(From(1, 100), From(101, 1)...), true},
	} {
		kept := slices.Clone(x.l)
		if got := Distinct(x.l); got != x.want {
			t.Errorf("Distinct of %d keys is %v", len(x.l), got)
		}
		if !slices.Equal(x.l, kept) {
			t.Error("Distinct changed its list")
		}
	}
}

func TestDistinctSeesAnyTwo(t *testing.T) {
	const n = 12
	for i := range n {
		for j := range i {
			l := numbered(n)
			l[i] = l[j]
			if Distinct(l) {
				t.Errorf("keys %d and %d are the same, and not seen", j, i)
			}
		}
	}
}

func TestDistinctSeesEachBit(t *testing.T) {
	key := libraryKey(1)
	for bit := range 128 {
		other := key
		other[bit/8] ^= 1 << (bit % 8)
		if !Distinct([]api.Key{key, other}) {
			t.Errorf("keys that differ in bit %d count as the same", bit)
		}
	}
}

// Ways: as the number is atomic, no key is told twice, whoever draws at the same time.

func TestDrawsOfMany(t *testing.T) {
	const drawers, each, keys = 16, 100, 1000
	l := numbered(keys)
	d := New(l)
	told := make([][]api.Key, drawers)
	var all sync.WaitGroup
	for i := range drawers {
		all.Go(func() {
			for range each {
				if k, e := d.Next(); e == api.OK {
					told[i] = append(told[i], k)
				}
				if left := d.Left(); left < 0 || left > keys {
					t.Errorf("Left is %d", left)
				}
			}
		})
	}
	all.Wait()
	got := slices.Concat(told...)
	if len(got) != keys || !Distinct(got) {
		t.Errorf("%d keys of %d were told, or one twice", len(got), keys)
	}
	wantState(t, d, l, 0)
	wantDry(t, d)
}
