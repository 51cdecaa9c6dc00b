package term

import (
	"math"
	"slices"
	"strconv"
	"strings"
	"testing"

	"oblivion/api"
)

func atom(n int) Node    { return Node{Op: Atom, A: n} }
func key(n int) Node     { return Node{Op: Key, A: n} }
func pair(a, b int) Node { return Node{Op: Pair, A: a, B: b} }
func lock(a, b int) Node { return Node{Op: Lock, A: a, B: b} }

// sample has each kind, and terms that stand twice, at other places.
func sample() []Node {
	return []Node{key(1), atom(20), lock(0, 1), pair(2, 1), atom(20), lock(0, 4), pair(5, 4), key(20), lock(7, 6), pair(0, 0)}
}

func sampleTexts() []string {
	return []string{"k1", "a20", "{a20}k1", "({a20}k1,a20)", "a20", "{a20}k1", "({a20}k1,a20)", "k20", "{({a20}k1,a20)}k20", "(k1,k1)"}
}

// doubled has n pairs behind its atom, each of the one ahead of it twice.
func doubled(n int) []Node {
	l := []Node{atom(0)}
	for i := range n {
		l = append(l, pair(i, i))
	}
	return l
}

// ofSize has a term of n bytes, from 7 on, at its end. The pair at place k of doubled has 5 * 2^k - 3 bytes, so that a pair with it has 5 * 2^k more; the last atom's digits are what is left.
func ofSize(n int) []Node {
	l := doubled(30)
	digits := 1 + (n-7)%5
	last := 0
	for k := range 30 {
		if (n-7)/5>>k&1 == 1 {
			l = append(l, pair(last, k))
			last = len(l) - 1
		}
	}
	number, _ := strconv.Atoi("1" + strings.Repeat("0", digits-1))
	l = append(l, atom(number))
	return append(l, pair(last, len(l)-1))
}

// numbered has n atoms, all of them different.
func numbered(n int) []Node {
	var l []Node
	for i := range n {
		l = append(l, atom(i))
	}
	return l
}

// some makes a list of n nodes that may be, another one for each seed, with few numbers so that terms come again.
func some(seed uint64, n int) []Node {
	next := func(most int) int {
		seed = seed*6364136223846793005 + 1442695040888963407
		return int(seed>>33) % most
	}
	l := []Node{key(0)}
	for len(l) < n {
		x := Node{Op: next(4)}
		switch x.Op {
		case Atom, Key:
			x.A = next(3)
		case Pair:
			x.A, x.B = next(len(l)), next(len(l))
		case Lock:
			x.A, x.B = next(len(l)), next(len(l))
			for l[x.A].Op != Key {
				x.A--
			}
		}
		l = append(l, x)
	}
	return l
}

// written is the text of a term by the chapter's words alone, however long.
func written(l []Node, i int) string {
	x := l[i]
	switch x.Op {
	case Atom:
		return "a" + strconv.Itoa(x.A)
	case Key:
		return "k" + strconv.Itoa(x.A)
	case Pair:
		return "(" + written(l, x.A) + "," + written(l, x.B) + ")"
	}
	return "{" + written(l, x.B) + "}" + written(l, x.A)
}

// alike holds two terms against each other by the chapter's words alone.
func alike(l []Node, i, j int) bool {
	x, y := l[i], l[j]
	if x.Op != y.Op {
		return false
	}
	if x.Op == Atom || x.Op == Key {
		return x.A == y.A
	}
	return alike(l, x.A, y.A) && alike(l, x.B, y.B)
}

// reached tells the parts of i, rising, by going down into each of them.
func reached(l []Node, i int) []int {
	out := []int{i}
	if x := l[i]; x.Op == Pair || x.Op == Lock {
		out = slices.Concat(out, reached(l, x.A), reached(l, x.B))
	}
	slices.Sort(out)
	return slices.Compact(out)
}

func badLists() map[string][]Node {
	return map[string][]Node{
		"op 4":                   {{Op: 4}},
		"op -1":                  {{Op: -1}},
		"greatest op":            {{Op: math.MaxInt}},
		"least op":               {{Op: math.MinInt}},
		"op 4 with places":       {key(0), {Op: 4, A: 0, B: 0}},
		"op 5 with places":       {key(0), {Op: 5, A: 0, B: 0}},
		"atom beyond":            {atom(1000000)},
		"atom far beyond":        {atom(math.MaxInt)},
		"atom below":             {atom(-1)},
		"atom far below":         {atom(math.MinInt)},
		"atom with B":            {{Op: Atom, A: 3, B: 1}},
		"atom with B below":      {{Op: Atom, A: 3, B: -1}},
		"atom with B of a place": {atom(1), {Op: Atom, A: 0, B: 1}},
		"key beyond":             {key(1000000)},
		"key below":              {key(-1)},
		"key far below":          {key(math.MinInt)},
		"key with B":             {{Op: Key, A: 3, B: 1}},
		"key with B below":       {{Op: Key, A: 3, B: math.MinInt}},
		"pair at first":          {pair(0, 0)},
		"pair of itself, A":      {atom(0), pair(1, 0)},
		"pair of itself, B":      {atom(0), pair(0, 1)},
		"pair of later ones, A":  {atom(0), pair(2, 0), atom(1)},
		"pair of later ones, B":  {atom(0), pair(0, 2), atom(1)},
		"pair of none, A":        {atom(0), pair(-1, 0)},
		"pair of none, B":        {atom(0), pair(0, -1)},
		"pair of least":          {atom(0), pair(math.MinInt, math.MinInt)},
		"pair of greatest":       {atom(0), pair(math.MaxInt, math.MaxInt)},
		"lock at first":          {lock(0, 0)},
		"lock by itself":         {key(0), lock(1, 0)},
		"lock of itself":         {key(0), lock(0, 1)},
		"lock by a later key":    {key(0), lock(2, 0), key(1)},
		"lock of a later one":    {key(0), lock(0, 2), key(1)},
		"lock by none":           {key(0), lock(-1, 0)},
		"lock of none":           {key(0), lock(0, -1)},
		"lock by greatest":       {key(0), lock(math.MaxInt, 0)},
		"lock by an atom":        {atom(0), key(0), lock(0, 1)},
		"lock by a pair":         {key(0), pair(0, 0), lock(1, 0)},
		"lock by a lock":         {key(0), lock(0, 0), lock(1, 0)},
		"the last one":           append(sample(), pair(0, 10)),
		"the first one":          append([]Node{{Op: 9}}, sample()...),
		"201":                    make([]Node, 201),
		"201 different":          numbered(201),
		"250":                    some(1, 250),
		"3000":                   make([]Node, 3000),
	}
}

// P8.1

func TestKinds(t *testing.T) {
	if Atom != 0 || Key != 1 || Pair != 2 || Lock != 3 {
		t.Error(Atom, Key, Pair, Lock)
	}
}

func TestMay(t *testing.T) {
	for name, l := range map[string][]Node{
		"nil":               nil,
		"none":              {},
		"zero":              {{}},
		"the chapter's":     {key(1), atom(2), lock(0, 1)},
		"numbers' edges":    {atom(0), atom(999999), key(0), key(999999)},
		"sample":            sample(),
		"pair of one twice": {atom(5), pair(0, 0)},
		"key by itself":     {key(5), lock(0, 0)},
		"lock of a lock":    {key(5), lock(0, 0), lock(0, 1)},
		"by the last key":   {atom(1), key(5), lock(1, 0)},
		"of the last":       {key(5), atom(1), lock(0, 1), pair(1, 2), pair(3, 3)},
		"200":               make([]Node, 200),
		"200 different":     numbered(200),
		"200 doubled":       doubled(199),
		"200 of all kinds":  some(3, 200),
	} {
		kept := slices.Clone(l)
		if !May(l) {
			t.Errorf("%s: may not be", name)
		}
		if !slices.Equal(l, kept) {
			t.Errorf("%s: changed", name)
		}
	}
}

func TestMayNot(t *testing.T) {
	for name, l := range badLists() {
		kept := slices.Clone(l)
		if May(l) {
			t.Errorf("%s: may be", name)
		}
		if !slices.Equal(l, kept) {
			t.Errorf("%s: changed", name)
		}
	}
}

func TestMayOfEachPlace(t *testing.T) {
	l := []Node{atom(1), key(2), pair(0, 1), lock(1, 2)}
	for a := -2; a < 7; a++ {
		for b := -2; b < 7; b++ {
			ahead := a >= 0 && a < len(l) && b >= 0 && b < len(l)
			if got := May(append(slices.Clone(l), pair(a, b))); got != ahead {
				t.Errorf("with pair %d %d: %v", a, b, got)
			}
			if got := May(append(slices.Clone(l), lock(a, b))); got != (ahead && a == 1) {
				t.Errorf("with lock %d %d: %v", a, b, got)
			}
		}
	}
}

// P8.2

func TestText(t *testing.T) {
	for i, want := range sampleTexts() {
		if got := Text(sample(), i); got != want {
			t.Errorf("%d: %q, want %q", i, got, want)
		}
		if got := Size(sample(), i); got != len(want) {
			t.Errorf("%d: %d bytes, want %d", i, got, len(want))
		}
	}
}

func TestTextOfNumbers(t *testing.T) {
	for _, n := range []int{0, 1, 9, 10, 11, 99, 100, 999, 1000, 9999, 10000, 99999, 100000, 123456, 999998, 999999} {
		l := []Node{atom(n), key(n)}
		for i, want := range []string{"a" + strconv.Itoa(n), "k" + strconv.Itoa(n)} {
			if got := Text(l, i); got != want || Size(l, i) != len(want) {
				t.Errorf("%q of %d bytes, want %q", got, Size(l, i), want)
			}
		}
	}
}

func TestTextOfSome(t *testing.T) {
	for seed := range uint64(300) {
		l := some(seed, 18)
		for i := range l {
			want := written(l, i)
			if got := Size(l, i); got != len(want) {
				t.Errorf("seed %d, %d: %d bytes, want %d", seed, i, got, len(want))
			}
			if len(want) > 2000 {
				want = ""
			}
			if got := Text(l, i); got != want {
				t.Errorf("seed %d, %d: %q, want %q", seed, i, got, want)
			}
		}
	}
}

func TestTextUpToItsBound(t *testing.T) {
	for n := 1900; n <= 2100; n++ {
		l := ofSize(n)
		last := len(l) - 1
		want := written(l, last)
		if len(want) != n || Size(l, last) != n {
			t.Fatalf("%d bytes are %d, of %d", n, Size(l, last), len(want))
		}
		if n > 2000 {
			want = ""
		}
		if got := Text(l, last); got != want {
			t.Errorf("of %d bytes: %d", n, len(got))
		}
	}
}

func TestTextOfLocksUpToItsBound(t *testing.T) {
	for n := 1990; n <= 2010; n++ {
		l := append(ofSize(n-4), key(0))
		l = append(l, lock(len(l)-1, len(l)-2))
		want := "{" + written(l, len(l)-3) + "}k0"
		if n > 2000 {
			want = ""
		}
		if got := Text(l, len(l)-1); got != want || Size(l, len(l)-1) != n {
			t.Errorf("of %d bytes: %d, and a size of %d", n, len(got), Size(l, len(l)-1))
		}
	}
}

func TestTextOfAllTerms(t *testing.T) {
	l := []Node{atom(0)}
	for i := range 199 {
		l = append(l, pair(0, i))
	}
	want := strings.Repeat("(a0,", 199) + "a0" + strings.Repeat(")", 199)
	if got := Text(l, 199); got != want || Size(l, 199) != len(want) {
		t.Errorf("%q, and a size of %d", got, Size(l, 199))
	}
}

func TestSizeUpToItsBound(t *testing.T) {
	for n := 999999990; n <= 1000000010; n++ {
		l := ofSize(n)
		if got := Size(l, len(l)-1); got != min(n, 1000000000) {
			t.Errorf("%d bytes are %d", n, got)
		}
		l = append(l, pair(len(l)-1, len(l)-1))
		if got := Size(l, len(l)-1); got != 1000000000 || Text(l, len(l)-1) != "" {
			t.Errorf("%d bytes twice are %d", n, got)
		}
		l = append(ofSize(n-4), key(0))
		l = append(l, lock(len(l)-1, len(l)-2))
		if got := Size(l, len(l)-1); got != min(n, 1000000000) {
			t.Errorf("%d bytes of a lock are %d", n, got)
		}
	}
}

func TestTextTooLong(t *testing.T) {
	l := doubled(199)
	size := 2
	for i := range l {
		if got := Size(l, i); got != size {
			t.Errorf("%d: %d bytes, want %d", i, got, size)
		}
		if got := Text(l, i); (got == "") != (size > 2000) || got != "" && len(got) != size {
			t.Errorf("%d: a text of %d bytes, of %d", i, len(got), size)
		}
		size = min(2*size+3, 1000000000)
	}
}

func TestTextOfTermsThatMayNotBe(t *testing.T) {
	for name, l := range badLists() {
		for _, i := range []int{-1, 0, 1, 2, len(l) - 1, len(l)} {
			if Text(l, i) != "" || Size(l, i) != 0 {
				t.Errorf("%s, %d: %q, %d", name, i, Text(l, i), Size(l, i))
			}
		}
	}
}

func noPlaces(l []Node) []int {
	return []int{-1, -2, math.MinInt, math.MinInt + 1, len(l), len(l) + 1, 200, 201, math.MaxInt32, math.MaxInt - 1, math.MaxInt}
}

func TestTextOfNoPlace(t *testing.T) {
	for _, l := range [][]Node{nil, {}, {atom(1)}, sample(), make([]Node, 200)} {
		for _, i := range noPlaces(l) {
			if Text(l, i) != "" || Size(l, i) != 0 {
				t.Errorf("%d of %d: %q, %d", i, len(l), Text(l, i), Size(l, i))
			}
		}
	}
}

// P8.3

func TestSame(t *testing.T) {
	texts := sampleTexts()
	for i := range texts {
		for j := range texts {
			if got := Same(sample(), i, j); got != (texts[i] == texts[j]) {
				t.Errorf("%s at %d and %s at %d: %v", texts[i], i, texts[j], j, got)
			}
		}
	}
}

func TestSameIsOfKindNumberAndOrder(t *testing.T) {
	l := []Node{key(1), atom(1), key(2), pair(0, 2), pair(2, 0), lock(0, 2), lock(2, 0), pair(0, 0), lock(0, 0), lock(0, 1), lock(2, 1), pair(3, 1), pair(1, 3)}
	for i := range l {
		for j := range l {
			if got := Same(l, i, j); got != (i == j) {
				t.Errorf("%s and %s: %v", written(l, i), written(l, j), got)
			}
		}
	}
}

func TestSameOfSome(t *testing.T) {
	for seed := range uint64(200) {
		l := some(seed, 25)
		for i := range l {
			for j := range l {
				if got := Same(l, i, j); got != alike(l, i, j) {
					t.Errorf("seed %d, %d and %d: %v", seed, i, j, got)
				}
			}
		}
	}
}

// The texts of these would have some 2^90 bytes: to go down into them would not end.
func TestSameOfGreatTerms(t *testing.T) {
	l := doubled(90)
	end := len(l)
	l = append(l, atom(0))
	for i := range 90 {
		l = append(l, pair(end+i, i))
	}
	l = append(l, pair(90, 89))
	if len(l) > 200 || !May(l) {
		t.Fatal("a list that may not be")
	}
	for i := range 91 {
		for j := range 91 {
			if got := Same(l, i, end+j); got != (i == j) {
				t.Errorf("%d and %d: %v", i, j, got)
			}
		}
		if Same(l, i, len(l)-1) {
			t.Errorf("%d and another pair", i)
		}
	}
	if !Same(doubled(199), 199, 199) || Same(doubled(199), 199, 198) {
		t.Error("the last one of 200")
	}
}

func TestSameOfNoTerm(t *testing.T) {
	for name, l := range badLists() {
		for _, i := range []int{-1, 0, 1, len(l) - 1, len(l)} {
			if Same(l, i, i) || Same(l, 0, i) || Same(l, i, 0) {
				t.Errorf("%s: %d is the same", name, i)
			}
		}
	}
	for _, l := range [][]Node{nil, {}, {atom(1)}, sample(), make([]Node, 200)} {
		for _, i := range noPlaces(l) {
			if Same(l, i, i) || Same(l, 0, i) || Same(l, i, 0) {
				t.Errorf("%d of %d is the same", i, len(l))
			}
		}
	}
}

// P8.4

func TestParts(t *testing.T) {
	for i, want := range [][]int{{0}, {1}, {0, 1, 2}, {0, 1, 2, 3}, {4}, {0, 4, 5}, {0, 4, 5, 6}, {7}, {0, 4, 5, 6, 7, 8}, {0, 9}} {
		if got := Parts(sample(), i); !slices.Equal(got, want) {
			t.Errorf("%d: %d, want %d", i, got, want)
		}
	}
}

// An atom's number is not a place, be there one of that number or not.
func TestPartsOfNumbers(t *testing.T) {
	l := []Node{atom(3), key(0), atom(2), key(1), atom(1), key(999999), atom(0)}
	for i := range l {
		if got := Parts(l, i); !slices.Equal(got, []int{i}) {
			t.Errorf("%d: %d", i, got)
		}
	}
}

func TestPartsOfSome(t *testing.T) {
	for seed := range uint64(300) {
		l := some(seed, 25)
		for i := range l {
			if got, want := Parts(l, i), reached(l, i); !slices.Equal(got, want) {
				t.Errorf("seed %d, %d: %d, want %d", seed, i, got, want)
			}
		}
	}
}

func TestPartsOfGreatTerms(t *testing.T) {
	l := doubled(199)
	for i := range l {
		got := Parts(l, i)
		if len(got) != i+1 {
			t.Fatalf("%d: %d parts", i, len(got))
		}
		for at, part := range got {
			if part != at {
				t.Errorf("%d: part %d is %d", i, at, part)
			}
		}
	}
}

func TestPartsOfNoTerm(t *testing.T) {
	for name, l := range badLists() {
		for _, i := range []int{-1, 0, 1, len(l) - 1, len(l)} {
			if got := Parts(l, i); len(got) != 0 {
				t.Errorf("%s, %d: %d", name, i, got)
			}
		}
	}
	for _, l := range [][]Node{nil, {}, {atom(1)}, sample(), make([]Node, 200)} {
		for _, i := range noPlaces(l) {
			if got := Parts(l, i); len(got) != 0 {
				t.Errorf("%d of %d: %d", i, len(l), got)
			}
		}
	}
}

func TestPartsIsNewMemory(t *testing.T) {
	l := sample()
	first, second := Parts(l, 6), Parts(l, 6)
	clear(first)
	if want := []int{0, 4, 5, 6}; !slices.Equal(second, want) || !slices.Equal(Parts(l, 6), want) || !slices.Equal(l, sample()) {
		t.Error("answers of Parts share memory, or the list was changed")
	}
}

// Ways: the iterator may be left, and gone through again.
func TestPartsAreLeftEarly(t *testing.T) {
	want := []int{8, 7, 6, 5, 4, 0}
	parts := partsFromBehind(sample(), 8)
	for n := 1; n <= len(want); n++ {
		var got []int
		for at := range parts {
			got = append(got, at)
			if len(got) == n {
				break
			}
		}
		if !slices.Equal(got, want[:n]) {
			t.Errorf("left behind %d: %d", n, got)
		}
	}
}

// P8.5

func wantAdded(t *testing.T, l []Node, x Node, want []Node, place int, e api.Errno) {
	t.Helper()
	kept := slices.Clone(l)
	got, at, err := Add(l, x)
	if !slices.Equal(got, want) || at != place || err != e {
		t.Errorf("%v to %d nodes: %d nodes, %d, %d, want %d, %d, %d", x, len(l), len(got), at, err, len(want), place, e)
	}
	if !slices.Equal(l, kept) {
		t.Errorf("%v to %d nodes: the list that was handed in was changed", x, len(l))
	}
	for i := range got {
		got[i] = Node{Op: -7}
	}
	if !slices.Equal(l, kept) {
		t.Errorf("%v to %d nodes: the answer shares memory with the list", x, len(l))
	}
}

func TestAddBehind(t *testing.T) {
	for _, x := range []Node{atom(0), atom(999999), key(2), key(999999), pair(9, 9), pair(0, 1), pair(3, 6), lock(0, 9), lock(7, 7), lock(0, 6)} {
		wantAdded(t, sample(), x, append(sample(), x), 10, api.OK)
	}
	wantAdded(t, nil, Node{}, []Node{{}}, 0, api.OK)
	wantAdded(t, []Node{}, key(3), []Node{key(3)}, 0, api.OK)
	wantAdded(t, numbered(199), key(3), append(numbered(199), key(3)), 199, api.OK)
	wantAdded(t, numbered(199), pair(198, 198), append(numbered(199), pair(198, 198)), 199, api.OK)
}

// That a term is the same is not enough: its node must be.
func TestAddOfSameTermsBehind(t *testing.T) {
	x := lock(0, 2)
	wantAdded(t, []Node{key(1), atom(2), atom(2), lock(0, 1)}, x, []Node{key(1), atom(2), atom(2), lock(0, 1), x}, 4, api.OK)
	x = pair(5, 1)
	wantAdded(t, sample(), x, append(sample(), x), 10, api.OK)
}

func TestAddOfWhatIsThere(t *testing.T) {
	for i, x := range sample() {
		if i == 4 {
			i = 1
		}
		wantAdded(t, sample(), x, sample(), i, api.OK)
	}
	wantAdded(t, make([]Node, 60), Node{}, make([]Node, 60), 0, api.OK)
}

func TestAddToFull(t *testing.T) {
	full := numbered(200)
	for _, x := range []Node{atom(200), key(0), pair(0, 199), pair(199, 199)} {
		wantAdded(t, full, x, full, 0, api.ErrFull)
	}
	for _, i := range []int{0, 1, 100, 199} {
		wantAdded(t, full, full[i], full, i, api.OK)
	}
	wantAdded(t, make([]Node, 200), Node{}, make([]Node, 200), 0, api.OK)
	wantAdded(t, make([]Node, 200), atom(5), make([]Node, 200), 0, api.ErrFull)
}

func TestAddOfWhatMayNotBe(t *testing.T) {
	bad := []Node{
		{Op: 4}, {Op: -1}, {Op: math.MaxInt}, {Op: math.MinInt},
		atom(-1), atom(1000000), key(-1), key(1000000), {Op: Atom, A: 20, B: 1}, {Op: Key, A: 1, B: -1},
		pair(-1, 0), pair(0, -1), pair(math.MinInt, 0), pair(200, 0), pair(0, 200), pair(math.MaxInt, 0),
		lock(-1, 0), lock(0, -1), lock(200, 0), lock(0, 200), lock(1, 0), lock(2, 0), lock(3, 0), lock(math.MaxInt, 0),
	}
	for _, x := range bad {
		// ErrTerm is named ahead of ErrFull.
		for _, l := range [][]Node{nil, sample(), numbered(200)} {
			wantAdded(t, l, x, l, 0, api.ErrTerm)
		}
	}
	for _, x := range []Node{pair(10, 0), pair(0, 10), lock(10, 0), lock(0, 10)} {
		wantAdded(t, sample(), x, sample(), 0, api.ErrTerm)
	}
	wantAdded(t, numbered(200), lock(0, 1), numbered(200), 0, api.ErrTerm)
}

func TestAddToWhatMayNotBe(t *testing.T) {
	for name, l := range badLists() {
		t.Run(name, func(t *testing.T) {
			for _, x := range []Node{{}, atom(7), key(1), pair(0, 0), lock(0, 0), l[0], l[len(l)-1], {Op: 9}} {
				wantAdded(t, l, x, l, 0, api.ErrTerm)
			}
		})
	}
}

func TestAddIsNewMemory(t *testing.T) {
	room := append(make([]Node, 0, 20), sample()...)
	a, _, _ := Add(room, atom(5))
	b, _, _ := Add(room, atom(6))
	if a[10] != atom(5) || b[10] != atom(6) || room[:11][10] != (Node{}) {
		t.Error("x came into the room behind the list")
	}
	a, _, _ = Add(room, atom(20))
	_ = append(a, atom(7))
	if room[:11][10] != (Node{}) {
		t.Error("an answer is the list itself")
	}
}

func TestAddOneByOne(t *testing.T) {
	var l []Node
	for i := range 250 {
		var at int
		var e api.Errno
		l, at, e = Add(l, atom(i/2))
		if at != i/2 || e != api.OK || len(l) != i/2+1 {
			t.Fatalf("%d: %d, %d, %d nodes", i, at, e, len(l))
		}
	}
	if api.ErrFull != 2 || api.ErrTerm != 80 {
		t.Error(api.ErrFull, api.ErrTerm)
	}
}

// P8.6

func textsOf(l []Node) []string {
	var texts []string
	for i := range l {
		texts = append(texts, Text(l, i))
	}
	return texts
}

func TestSameJustIfTextsAre(t *testing.T) {
	for seed := range uint64(200) {
		l := some(seed, 40)
		texts := textsOf(l)
		for i, x := range texts {
			for j, y := range texts {
				if x != "" && y != "" && Same(l, i, j) != (x == y) {
					t.Errorf("seed %d: %s and %s: %v", seed, x, y, Same(l, i, j))
				}
			}
		}
	}
}

// Numbers side by side, and all pairs and locks of them, and of these: no text may be read in two ways.
func TestTextsAreReadInOneWay(t *testing.T) {
	l := []Node{key(1), key(11), atom(1), atom(11)}
	for _, n := range []int{4, 12} {
		for a := range n {
			for b := range n {
				if len(l) < 190 {
					l = append(l, pair(a, b))
				}
				if l[a].Op == Key && len(l) < 190 {
					l = append(l, lock(a, b))
				}
			}
		}
	}
	if !May(l) {
		t.Fatal("a list that may not be")
	}
	texts := textsOf(l)
	for i, x := range texts {
		for j, y := range texts {
			if same := Same(l, i, j); same != (x == y) || same != alike(l, i, j) {
				t.Errorf("%s and %s: %v", x, y, same)
			}
		}
	}
}

// R4 and R5

func TestNothingIsChangedOrKept(t *testing.T) {
	l := sample()
	text, size, same := Text(l, 8), Size(l, 8), Same(l, 3, 6)
	other := []Node{key(7), lock(0, 0)}
	Text(other, 1)
	Same(other, 0, 1)
	Parts(other, 1)
	if Text(l, 8) != text || Size(l, 8) != size || Same(l, 3, 6) != same || !slices.Equal(l, sample()) {
		t.Error("an answer hangs on what was asked ahead of it, or the list was changed")
	}
}
