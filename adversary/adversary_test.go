package adversary

import (
	"math"
	"slices"
	"testing"

	"oblivion/term"
)

func atom(n int) term.Node    { return term.Node{Op: term.Atom, A: n} }
func key(n int) term.Node     { return term.Node{Op: term.Key, A: n} }
func pair(a, b int) term.Node { return term.Node{Op: term.Pair, A: a, B: b} }
func lock(a, b int) term.Node { return term.Node{Op: term.Lock, A: a, B: b} }

// sample has each kind, and terms that stand twice, at other places: k1, a2, {a2}k1, k2, ({a2}k1,k2), {({a2}k1,k2)}k2, k1, a2, {a2}k1, a9, (a2,a9).
func sample() []term.Node {
	return []term.Node{key(1), atom(2), lock(0, 1), key(2), pair(2, 3), lock(3, 4), key(1), atom(2), lock(6, 7), atom(9), pair(7, 9)}
}

// picker tells numbers below most, another row of them for each seed.
func picker(seed uint64) func(most int) int {
	return func(most int) int {
		seed = seed*6364136223846793005 + 1442695040888963407
		return int(seed>>33) % most
	}
}

// some makes a list of n nodes that may be, with few numbers so that terms come again.
func some(seed uint64, n int) []term.Node {
	next := picker(seed)
	l := []term.Node{key(0)}
	for len(l) < n {
		x := term.Node{Op: next(4)}
		switch x.Op {
		case term.Atom, term.Key:
			x.A = next(4)
		case term.Pair:
			x.A, x.B = next(len(l)), next(len(l))
		case term.Lock:
			x.A, x.B = next(len(l)), next(len(l))
			for l[x.A].Op != term.Key {
				x.A--
			}
		}
		l = append(l, x)
	}
	return l
}

// somePlaces picks places of a list of n, and some that are none.
func somePlaces(seed uint64, n int) []int {
	next := picker(seed*31 + 7)
	var places []int
	for range next(n/3 + 2) {
		places = append(places, next(n+4)-2)
	}
	return places
}

// locked has a chain of n locks: its key i lies in a lock of key i-1, and the places ask for as many rounds as may be, as the first key is needed for the lock at the end.
func locked(n int) []term.Node {
	var l []term.Node
	for i := range n + 1 {
		l = append(l, key(i))
	}
	for i := range n {
		l = append(l, lock(n-1-i, n-i))
	}
	return l
}

// doubled has n pairs behind its atom, each of the one ahead of it twice.
func doubled(n int) []term.Node {
	l := []term.Node{atom(0)}
	for i := range n {
		l = append(l, pair(i, i))
	}
	return l
}

func badLists() map[string][]term.Node {
	return map[string][]term.Node{
		"op 4":            {{Op: 4}},
		"op -1":           {key(1), {Op: -1}},
		"least op":        {{Op: math.MinInt}},
		"atom beyond":     {atom(1), atom(1000000)},
		"atom below":      {atom(-1)},
		"atom with B":     {{Op: term.Atom, A: 3, B: 1}},
		"key beyond":      {key(1000000)},
		"key below":       {key(math.MinInt)},
		"key with B":      {key(1), {Op: term.Key, A: 3, B: -1}},
		"pair of itself":  {pair(0, 0)},
		"pair behind":     {atom(1), pair(0, 2), atom(2)},
		"pair below":      {atom(1), pair(-1, 0)},
		"pair far beyond": {atom(1), pair(0, math.MaxInt)},
		"lock of itself":  {key(1), lock(0, 1)},
		"lock by an atom": {key(1), atom(1), lock(1, 0)},
		"lock by a pair":  {key(1), pair(0, 0), lock(1, 0)},
		"lock far below":  {key(1), lock(0, math.MinInt)},
		"201":             make([]term.Node, 201),
		"201 doubled":     doubled(200),
		"250 keys":        slices.Repeat([]term.Node{key(3)}, 250),
	}
}

func noPlaces(l []term.Node) []int {
	return []int{-1, -2, math.MinInt, math.MinInt + 1, len(l), len(l) + 1, 200, 201, math.MaxInt32, math.MaxInt - 1, math.MaxInt}
}

// plainKnows goes by the chapter's rules, one by one, till nothing changes.
func plainKnows(l []term.Node, known []int) []bool {
	is := make([]bool, len(l))
	for _, place := range known {
		if place >= 0 && place < len(l) {
			is[place] = true
		}
	}
	for {
		was := slices.Clone(is)
		for i, x := range l {
			for j := range l {
				is[j] = is[j] || is[i] && term.Same(l, i, j)
			}
			switch x.Op {
			case term.Pair:
				is[x.A] = is[x.A] || is[i]
				is[x.B] = is[x.B] || is[i]
				is[i] = is[i] || is[x.A] && is[x.B]
			case term.Lock:
				is[x.B] = is[x.B] || is[i] && is[x.A]
				is[i] = is[i] || is[x.A] && is[x.B]
			}
		}
		if slices.Equal(is, was) {
			return is
		}
	}
}

func plainNeeds(l []term.Node, known []int, goal int) []int {
	if goal < 0 || goal >= len(l) || plainKnows(l, known)[goal] {
		return nil
	}
	var numbers []int
	for number := range 10 {
		at := slices.Index(l, key(number))
		if at >= 0 && plainKnows(l, append(slices.Clone(known), at))[goal] {
			numbers = append(numbers, number)
		}
	}
	return numbers
}

func placesOf(all []bool) []int {
	var places []int
	for place, is := range all {
		if is {
			places = append(places, place)
		}
	}
	return places
}

// wantKnown asks for Knows and Can of each place, and that nothing handed in was changed.
func wantKnown(t *testing.T, l []term.Node, known, want []int) {
	t.Helper()
	keptList, keptKnown := slices.Clone(l), slices.Clone(known)
	all := Knows(l, known)
	if len(all) != len(l) || !slices.Equal(placesOf(all), want) {
		t.Errorf("of %d: %d of %d are known, want %d of %d", known, placesOf(all), len(all), want, len(l))
	}
	for goal := range l {
		if got := Can(l, known, goal); got != slices.Contains(want, goal) {
			t.Errorf("of %d: can %d: %v", known, goal, got)
		}
	}
	if !slices.Equal(l, keptList) || !slices.Equal(known, keptKnown) {
		t.Errorf("of %d: what was handed in was changed", known)
	}
}

// upTo tells the places ahead of n.
func upTo(n int) []int {
	var places []int
	for i := range n {
		places = append(places, i)
	}
	return places
}

// P9.1

func TestKnowsExamples(t *testing.T) {
	l := []term.Node{key(1), atom(2), lock(0, 1)}
	wantKnown(t, l, []int{2}, []int{2})
	wantKnown(t, l, []int{2, 0}, []int{0, 1, 2})
}

func TestKnowsEachRule(t *testing.T) {
	for name, x := range map[string]struct {
		l     []term.Node
		known []int
		want  []int
	}{
		"nothing":                       {sample(), nil, nil},
		"no terms":                      {nil, []int{0, 1}, nil},
		"what is told":                  {[]term.Node{atom(1), atom(2), key(3)}, []int{2, 0}, []int{0, 2}},
		"the same atom behind":          {[]term.Node{atom(1), atom(2), atom(1)}, []int{0}, []int{0, 2}},
		"the same atom ahead":           {[]term.Node{atom(1), atom(2), atom(1)}, []int{2}, []int{0, 2}},
		"a key is not an atom":          {[]term.Node{atom(1), key(1)}, []int{0}, []int{0}},
		"an atom is not a key":          {[]term.Node{atom(1), key(1)}, []int{1}, []int{1}},
		"the same key behind":           {[]term.Node{key(1), key(2), key(1)}, []int{0}, []int{0, 2}},
		"the same pair":                 {[]term.Node{atom(1), atom(1), atom(2), pair(0, 2), pair(1, 2), pair(2, 1)}, []int{4}, upTo(6)},
		"the same lock":                 {[]term.Node{key(1), atom(1), key(1), atom(1), lock(0, 1), lock(2, 3), lock(0, 2)}, []int{4}, []int{4, 5}},
		"a pair is not a lock":          {[]term.Node{key(1), atom(1), lock(0, 1), pair(2, 2), pair(0, 1)}, []int{2}, []int{2, 3}},
		"a pair's terms":                {[]term.Node{atom(1), key(2), atom(3), pair(0, 1)}, []int{3}, []int{0, 1, 3}},
		"a pair of what is known":       {[]term.Node{atom(1), key(2), atom(3), pair(1, 0)}, []int{0, 1}, []int{0, 1, 3}},
		"no pair of one alone":          {[]term.Node{atom(1), key(2), pair(1, 0)}, []int{0}, []int{0}},
		"no pair of the other alone":    {[]term.Node{atom(1), key(2), pair(1, 0)}, []int{1}, []int{1}},
		"a pair of one twice":           {[]term.Node{atom(1), pair(0, 0)}, []int{0}, []int{0, 1}},
		"what is locked":                {[]term.Node{key(1), atom(2), lock(0, 1)}, []int{0, 2}, []int{0, 1, 2}},
		"no key of a lock":              {[]term.Node{key(1), atom(2), lock(0, 1)}, []int{1, 2}, []int{1, 2}},
		"no lock without its key":       {[]term.Node{key(1), atom(2), lock(0, 1)}, []int{1}, []int{1}},
		"no lock without what's in it":  {[]term.Node{key(1), atom(2), lock(0, 1)}, []int{0}, []int{0}},
		"a lock of what is known":       {[]term.Node{key(1), atom(2), lock(0, 1)}, []int{0, 1}, []int{0, 1, 2}},
		"a key in its own lock":         {[]term.Node{key(1), lock(0, 0)}, []int{1}, []int{1}},
		"its own lock of a key":         {[]term.Node{key(1), lock(0, 0)}, []int{0}, []int{0, 1}},
		"keys in each other's locks":    {[]term.Node{key(1), key(2), lock(0, 1), lock(1, 0)}, []int{2, 3}, []int{2, 3}},
		"by the key at another place":   {[]term.Node{key(1), atom(2), lock(0, 1), key(1)}, []int{2, 3}, upTo(4)},
		"by another key":                {[]term.Node{key(1), atom(2), lock(0, 1), key(2)}, []int{2, 3}, []int{2, 3}},
		"by an atom of that number":     {[]term.Node{key(1), atom(2), lock(0, 1), atom(1)}, []int{2, 3}, []int{2, 3}},
		"a key out of a pair":           {[]term.Node{key(1), atom(2), lock(0, 1), pair(2, 0)}, []int{3}, upTo(4)},
		"a key out of a lock":           {[]term.Node{key(1), key(2), atom(3), lock(1, 2), lock(0, 1)}, []int{3, 4, 0}, upTo(5)},
		"out of a pair in a lock":       {[]term.Node{key(1), atom(2), atom(3), pair(1, 2), lock(0, 3)}, []int{4, 0}, upTo(5)},
		"a lock in a lock, by the key":  {[]term.Node{key(1), atom(2), lock(0, 1), lock(0, 2)}, []int{3, 0}, upTo(4)},
		"a lock in a lock, without one": {[]term.Node{key(1), key(2), atom(3), lock(0, 2), lock(1, 3)}, []int{4, 1}, []int{1, 3, 4}},
		"a lock in a lock, the outer's": {[]term.Node{key(1), key(2), atom(3), lock(0, 2), lock(1, 3)}, []int{4, 0}, []int{0, 4}},
		"put together, then the same":   {[]term.Node{atom(1), atom(2), atom(1), atom(2), pair(0, 1), pair(2, 3), pair(5, 5)}, []int{0, 1}, upTo(7)},
		"the sample's outer lock":       {sample(), []int{5, 3}, []int{2, 3, 4, 5, 8}},
		"the sample, by both keys":      {sample(), []int{5, 3, 6}, []int{0, 1, 2, 3, 4, 5, 6, 7, 8}},
		"the sample's last pair":        {sample(), []int{10}, []int{1, 7, 9, 10}},
	} {
		t.Run(name, func(t *testing.T) { wantKnown(t, x.l, x.known, x.want) })
	}
}

func TestKnowsOfPlacesThatAreNone(t *testing.T) {
	for _, l := range [][]term.Node{nil, {atom(1)}, sample(), doubled(199)} {
		wantKnown(t, l, noPlaces(l), nil)
		for _, place := range noPlaces(l) {
			if Can(l, upTo(len(l)), place) {
				t.Errorf("can %d of %d", place, len(l))
			}
		}
	}
	wantKnown(t, sample(), append(noPlaces(sample()), 3, -5, 5, 300), []int{2, 3, 4, 5, 8})
}

func TestKnowsOfPlacesInAnyOrder(t *testing.T) {
	want := []int{0, 1, 2, 3, 4, 5, 6, 7, 8}
	for _, known := range [][]int{{5, 3, 0}, {0, 3, 5}, {3, 5, 0, 0, 3, 5}, {6, 5, 3, 0}, slices.Repeat([]int{0, 5, 3}, 100)} {
		wantKnown(t, sample(), known, want)
	}
}

func TestKnowsOfTermsThatMayNotBe(t *testing.T) {
	for name, l := range badLists() {
		for _, known := range [][]int{nil, {0}, {len(l) - 1}, {0, 1, 2}, upTo(len(l))} {
			if got := Knows(l, known); len(got) != 0 {
				t.Errorf("%s: %v", name, got)
			}
			for _, goal := range []int{-1, 0, 1, len(l) - 1, len(l)} {
				if Can(l, known, goal) {
					t.Errorf("%s: can %d", name, goal)
				}
			}
		}
	}
}

func TestKnowsOfSome(t *testing.T) {
	for seed := range uint64(1500) {
		l := some(seed, 4+int(seed%16))
		known := somePlaces(seed, len(l))
		wantKnown(t, l, known, placesOf(plainKnows(l, known)))
	}
}

func TestKnowsOfAllSets(t *testing.T) {
	l := sample()
	for set := range 1 << len(l) {
		var known []int
		for place := range l {
			if set>>place&1 == 1 {
				known = append(known, place)
			}
		}
		want := plainKnows(l, known)
		if got := Knows(l, known); !slices.Equal(got, want) {
			t.Errorf("of %d: %d, want %d", known, placesOf(got), placesOf(want))
		}
	}
}

func TestKnowsOfChains(t *testing.T) {
	for _, n := range []int{1, 2, 50, 99} {
		l := locked(n)
		locks := upTo(len(l))[n+1:]
		wantKnown(t, l, locks, locks)
		wantKnown(t, l, append([]int{0}, locks...), upTo(len(l)))
		wantKnown(t, l, append([]int{n}, locks...), append([]int{n}, locks...))
	}
}

func TestKnowsOfGreatTerms(t *testing.T) {
	l := doubled(199)
	for _, place := range []int{0, 1, 100, 199} {
		wantKnown(t, l, []int{place}, upTo(200))
	}
	// The texts of these would have some 2^90 bytes, and each stands twice.
	l = doubled(90)
	end := len(l)
	l = append(l, atom(0))
	for i := range 90 {
		l = append(l, pair(end+i, i))
	}
	l = append(l, key(1), lock(len(l), len(l)-1), lock(len(l), 90), atom(1))
	wantKnown(t, l, []int{end + 93}, []int{end + 92, end + 93})
	wantKnown(t, l, []int{end + 93, end + 91}, upTo(len(l)-1))
}

// P9.2

func TestAtoms(t *testing.T) {
	l := []term.Node{atom(999999), key(5), atom(0), lock(1, 2), pair(0, 3), atom(30), atom(4), pair(5, 6), atom(30), key(6), lock(9, 5)}
	for _, x := range []struct{ known, want []int }{
		{nil, nil},
		{[]int{1, 9}, nil},
		{[]int{3, 10}, nil},
		{[]int{0}, []int{999999}},
		{[]int{0, 2}, []int{0, 999999}},
		{[]int{4}, []int{999999}},
		{[]int{4, 1}, []int{0, 999999}},
		{[]int{5}, []int{30}},
		{[]int{8}, []int{30}},
		{[]int{8, 5, 8}, []int{30}},
		{[]int{7}, []int{4, 30}},
		{[]int{7, 4, 3, 1}, []int{0, 4, 30, 999999}},
		{[]int{10, 9, -1, 11, math.MaxInt}, []int{30}},
		{upTo(11), []int{0, 4, 30, 999999}},
	} {
		kept := slices.Clone(x.known)
		if got := Atoms(l, x.known); !slices.Equal(got, x.want) {
			t.Errorf("of %d: %d, want %d", x.known, got, x.want)
		}
		if !slices.Equal(x.known, kept) {
			t.Errorf("of %d: changed", kept)
		}
	}
}

func TestAtomsOfMany(t *testing.T) {
	var l []term.Node
	var want []int
	for i := range 100 {
		l = append(l, atom(99-i), atom(99-i))
		want = append(want, i)
	}
	if got := Atoms(l, upTo(200)); !slices.Equal(got, want) {
		t.Errorf("%d", got)
	}
}

func TestAtomsOfSome(t *testing.T) {
	for seed := range uint64(500) {
		l := some(seed, 15)
		known := somePlaces(seed, len(l))
		is := plainKnows(l, known)
		var want []int
		for number := range 4 {
			if at := slices.Index(l, atom(number)); at >= 0 && is[at] {
				want = append(want, number)
			}
		}
		if got := Atoms(l, known); !slices.Equal(got, want) {
			t.Errorf("seed %d: %d, want %d", seed, got, want)
		}
	}
}

func TestAtomsOfTermsThatMayNotBe(t *testing.T) {
	for name, l := range badLists() {
		if got := Atoms(l, upTo(len(l))); len(got) != 0 {
			t.Errorf("%s: %d", name, got)
		}
	}
	if len(Atoms(nil, nil)) != 0 || len(Atoms(nil, []int{0, -1})) != 0 || len(Atoms(sample(), noPlaces(sample()))) != 0 {
		t.Error("atoms of nothing")
	}
}

// P9.3

func TestNeeds(t *testing.T) {
	twoLocks := []term.Node{key(9), key(3), atom(2), lock(0, 2), lock(1, 2), key(3), lock(1, 3)}
	for name, x := range map[string]struct {
		l     []term.Node
		known []int
		goal  int
		want  []int
	}{
		"its key":                       {[]term.Node{key(1), atom(2), lock(0, 1)}, []int{2}, 1, []int{1}},
		"it is known":                   {[]term.Node{key(1), atom(2), lock(0, 1)}, []int{2, 0}, 1, nil},
		"it was told":                   {[]term.Node{key(1), atom(2), lock(0, 1)}, []int{1}, 1, nil},
		"nobody has it":                 {[]term.Node{key(1), atom(2), lock(0, 1)}, nil, 1, nil},
		"a key":                         {[]term.Node{key(1), key(2)}, nil, 1, []int{2}},
		"a key that is known":           {[]term.Node{key(1), key(2)}, []int{1}, 1, nil},
		"a key at another place":        {[]term.Node{key(1), key(2), key(1)}, []int{1}, 2, []int{1}},
		"a key out of a lock":           {[]term.Node{key(7), key(2), lock(0, 1)}, []int{2}, 1, []int{2, 7}},
		"one of two locks":              {twoLocks, []int{3, 4}, 2, []int{3, 9}},
		"one lock of the two":           {twoLocks, []int{3}, 2, []int{9}},
		"both keys, one alone is not":   {twoLocks, []int{6}, 2, nil},
		"the other key is known":        {twoLocks, []int{6, 5}, 2, []int{9}},
		"the other key is known, first": {twoLocks, []int{6, 0}, 2, []int{3}},
		"a lock out of a lock":          {twoLocks, []int{6}, 3, []int{3}},
		"a lock of what is known":       {[]term.Node{key(1), atom(2), lock(0, 1)}, []int{1}, 2, []int{1}},
		"a lock of what is not":         {[]term.Node{key(1), atom(2), lock(0, 1)}, nil, 2, nil},
		"a lock of its key":             {[]term.Node{key(1), lock(0, 0)}, nil, 1, []int{1}},
		"a pair with a key":             {[]term.Node{key(1), atom(2), pair(1, 0)}, []int{1}, 2, []int{1}},
		"a pair with two keys":          {[]term.Node{key(1), key(2), pair(1, 0)}, nil, 2, nil},
		"a pair with two, one is known": {[]term.Node{key(1), key(2), pair(1, 0)}, []int{1}, 2, []int{1}},
		"keys in each other's locks":    {[]term.Node{key(8), key(4), lock(0, 1), lock(1, 0), atom(1), lock(0, 4)}, []int{2, 3, 5}, 4, []int{4, 8}},
		"no key of that number":         {[]term.Node{key(1), atom(5), lock(0, 1), atom(1)}, []int{2, 3}, 1, []int{1}},
		"far numbers":                   {[]term.Node{key(999999), key(0), atom(5), lock(0, 2), lock(1, 2)}, []int{3, 4, 3}, 2, []int{0, 999999}},
		"of places that are none, too":  {[]term.Node{key(1), atom(2), lock(0, 1)}, []int{-1, 2, 3, math.MaxInt, math.MinInt}, 1, []int{1}},
	} {
		keptList, keptKnown := slices.Clone(x.l), slices.Clone(x.known)
		if got := Needs(x.l, x.known, x.goal); !slices.Equal(got, x.want) {
			t.Errorf("%s: %d, want %d", name, got, x.want)
		}
		if !slices.Equal(x.l, keptList) || !slices.Equal(x.known, keptKnown) {
			t.Errorf("%s: what was handed in was changed", name)
		}
	}
}

func TestNeedsOfChains(t *testing.T) {
	l := locked(99)
	locks := upTo(len(l))[100:]
	for goal := range 100 {
		if got := Needs(l, locks, goal); !slices.Equal(got, upTo(goal+1)) {
			t.Errorf("key %d: %d", goal, got)
		}
	}
	if got := Needs(l, nil, len(l)-1); len(got) != 0 {
		t.Errorf("a lock of two keys: %d", got)
	}
}

// Each key of that number is one: it is told once, wherever it stands.
func TestNeedsOfKeysThatStandTwice(t *testing.T) {
	l := []term.Node{key(5), key(2), key(5), key(2), atom(1), lock(0, 4), lock(3, 4), lock(1, 4), key(5), key(2)}
	if got := Needs(l, []int{5, 6}, 4); !slices.Equal(got, []int{2, 5}) {
		t.Errorf("%d", got)
	}
	if got := Needs(slices.Repeat([]term.Node{key(3)}, 200), nil, 199); !slices.Equal(got, []int{3}) {
		t.Errorf("%d", got)
	}
}

func TestNeedsOfSome(t *testing.T) {
	for seed := range uint64(400) {
		l := some(seed, 4+int(seed%10))
		known := somePlaces(seed, len(l))
		for goal := -1; goal <= len(l); goal++ {
			if got, want := Needs(l, known, goal), plainNeeds(l, known, goal); !slices.Equal(got, want) {
				t.Errorf("seed %d, of %d for %d: %d, want %d", seed, known, goal, got, want)
			}
		}
	}
}

func TestNeedsOfNoPlace(t *testing.T) {
	for _, l := range [][]term.Node{nil, {}, {key(1)}, sample(), slices.Repeat([]term.Node{key(3)}, 200)} {
		for _, goal := range noPlaces(l) {
			if got := Needs(l, nil, goal); len(got) != 0 {
				t.Errorf("%d of %d: %d", goal, len(l), got)
			}
		}
	}
}

func TestNeedsOfTermsThatMayNotBe(t *testing.T) {
	for name, l := range badLists() {
		for _, goal := range []int{-1, 0, 1, len(l) - 1, len(l)} {
			if got := Needs(l, nil, goal); len(got) != 0 {
				t.Errorf("%s, %d: %d", name, goal, got)
			}
		}
	}
}

// P9.4

func TestWhoHasMoreKnowsNoLess(t *testing.T) {
	for seed := range uint64(500) {
		l := some(seed, 40)
		known := somePlaces(seed, len(l))
		less := Knows(l, known)
		more := Knows(l, append(somePlaces(seed+1000, len(l)), known...))
		for place := range l {
			if less[place] && !more[place] {
				t.Errorf("seed %d: %d is not known any more", seed, place)
			}
		}
	}
}

func TestWhatIsKnownMayBeHandedInAgain(t *testing.T) {
	for seed := range uint64(500) {
		l := some(seed, 40)
		known := somePlaces(seed, len(l))
		all := Knows(l, known)
		for _, again := range [][]int{placesOf(all), append(placesOf(all), known...), append(slices.Clone(known), known...)} {
			if got := Knows(l, again); !slices.Equal(got, all) {
				t.Errorf("seed %d: of %d: %d, then %d", seed, known, placesOf(all), placesOf(got))
			}
			if !slices.Equal(Atoms(l, again), Atoms(l, known)) {
				t.Errorf("seed %d: other atoms", seed)
			}
			for goal := range l {
				if !slices.Equal(Needs(l, again, goal), Needs(l, known, goal)) {
					t.Errorf("seed %d: other needs for %d", seed, goal)
				}
			}
		}
	}
}

// If a lock's key is not known, all that the lock lets be known, beside it, is made of it.
func TestNothingIsTakenOutOfALockWithoutItsKey(t *testing.T) {
	shut := 0
	for seed := range uint64(500) {
		l := some(seed, 25)
		known := somePlaces(seed, len(l))
		for at, x := range l {
			with := append(slices.Clone(known), at)
			if x.Op != term.Lock || Can(l, with, x.A) {
				continue
			}
			shut++
			without := Knows(l, known)
			for place, is := range Knows(l, with) {
				if is && !without[place] && !hasPart(l, place, at) {
					t.Errorf("seed %d: %s was taken out of %s", seed, term.Text(l, place), term.Text(l, at))
				}
			}
		}
	}
	if shut < 100 {
		t.Errorf("%d locks were shut", shut)
	}
}

func hasPart(l []term.Node, place, part int) bool {
	return slices.ContainsFunc(term.Parts(l, place), func(p int) bool { return term.Same(l, p, part) })
}

// R4 and R5

func TestAnswersAreNewMemory(t *testing.T) {
	l := sample()
	room := append(make([]int, 0, 20), 5, 3)
	all, atoms, needs := Knows(l, room), Atoms(l, []int{10}), Needs(l, room, 1)
	clear(all)
	clear(atoms)
	clear(needs)
	if !slices.Equal(placesOf(Knows(l, room)), []int{2, 3, 4, 5, 8}) || !slices.Equal(Atoms(l, []int{10}), []int{2, 9}) || !slices.Equal(Needs(l, room, 1), []int{1}) {
		t.Error("an answer hangs on what was written over an earlier one")
	}
	if !slices.Equal(l, sample()) || !slices.Equal(room[:20], append([]int{5, 3}, make([]int, 18)...)) {
		t.Error("what was handed in was changed, or the room behind it")
	}
}

func TestEachTermOnceIsAsSame(t *testing.T) {
	for seed := range uint64(100) {
		l := some(seed, 25)
		terms, at := eachOnce(l)
		if !term.May(terms) || len(at) != len(l) {
			t.Fatalf("seed %d: terms that may not be", seed)
		}
		for i := range l {
			for j := range l {
				if got := at[i] == at[j]; got != term.Same(l, i, j) {
					t.Errorf("seed %d, %d and %d: %v", seed, i, j, got)
				}
			}
			if term.Text(terms, at[i]) != term.Text(l, i) {
				t.Errorf("seed %d: %d is another term", seed, i)
			}
		}
	}
}
