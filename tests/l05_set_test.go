package tests

import (
	"math"
	"slices"
	"testing"

	"loop.example/g00491/impl"
)

// spanList writes a list of spans as pairs: Lo, Hi, Lo, Hi and so on.
func spanList(ends ...int) []impl.Span {
	var s []impl.Span
	for k := 0; k+1 < len(ends); k += 2 {
		s = append(s, impl.Span{Lo: ends[k], Hi: ends[k+1]})
	}
	return s
}

// stretches is the set of some numbers, in whatever order and however often, made apart from the program's own functions.
func stretches(list []int) []impl.Span {
	var s []impl.Span
	for _, n := range slices.Compact(slices.Sorted(slices.Values(list))) {
		if len(s) > 0 && s[len(s)-1].Hi == n-1 {
			s[len(s)-1].Hi = n
		} else {
			s = append(s, impl.Span{Lo: n, Hi: n})
		}
	}
	return s
}

// numbersOf: each number of the spans, as often as it stands there.
func numbersOf(s []impl.Span) []int {
	var list []int
	for _, x := range s {
		for n := x.Lo; n <= x.Hi; n++ {
			list = append(list, n)
		}
	}
	return list
}

// smallSets: all sets of numbers from base on, below base and width.
func smallSets(base, width int) [][]impl.Span {
	var all [][]impl.Span
	for mask := range 1 << width {
		var list []int
		for k := range width {
			if mask>>k%2 == 1 {
				list = append(list, base+k)
			}
		}
		all = append(all, stretches(list))
	}
	return all
}

// widestSets: many spans, long ones, and all numbers that there are.
func widestSets() [][]impl.Span {
	var even, odd []int
	for n := 0; n <= 9999; n += 2 {
		even, odd = append(even, n), append(odd, n+1)
	}
	return [][]impl.Span{
		nil,
		spanList(0, 9999),
		spanList(0, 0),
		spanList(9999, 9999),
		spanList(0, 0, 9999, 9999),
		spanList(0, 4999),
		spanList(5000, 9999),
		spanList(1, 9998),
		stretches(even),
		stretches(odd),
	}
}

// goodSets: such as are SetOk.
func goodSets() [][]impl.Span {
	all := append(smallSets(0, 5), smallSets(9995, 5)...)
	return append(append(all, widestSets()...), spanList(3, 5, 7, 7, 9, 20), spanList(100, 200, 202, 300, 400, 400))
}

// badSets: each breaks one rule, alone, as the first of several, in the middle or at the end.
func badSets() [][]impl.Span {
	bad := [][]impl.Span{
		spanList(5, 5, 6, 6), spanList(5, 5, 5, 5), spanList(5, 5, 4, 4), spanList(5, 5, 0, 0),
		spanList(1, 2, 3, 4), spanList(1, 4, 2, 3), spanList(1, 4, 4, 6), spanList(3, 4, 1, 2),
		spanList(0, 9998, 9999, 9999), spanList(0, 9999, 9999, 9999), spanList(0, 9999, 0, 9999),
		spanList(0, 9999, 10001, 10001), spanList(9999, 9999, 0, 0), spanList(0, 9999, 10000, 10000),
	}
	for _, x := range [][]impl.Span{
		spanList(-1, -1), spanList(-1, 0), spanList(-1, 9999), spanList(0, -1), spanList(-2, -1),
		spanList(10000, 10000), spanList(9999, 10000), spanList(0, 10000), spanList(10000, 9999),
		spanList(6, 5), spanList(9999, 0), spanList(-1, 10000), spanList(1, 0), spanList(9999, 9998),
		spanList(math.MinInt, math.MaxInt), spanList(math.MaxInt, math.MinInt), spanList(0, math.MaxInt),
		spanList(math.MinInt, 0), spanList(math.MaxInt, math.MaxInt), spanList(math.MinInt, math.MinInt),
		spanList(5, math.MaxInt-1), spanList(math.MaxInt-1, math.MaxInt), spanList(5, math.MinInt),
	} {
		bad = append(bad, x,
			slices.Concat(x, spanList(500, 600)),
			slices.Concat(spanList(1, 3), x),
			slices.Concat(spanList(1, 3, 50, 50), x, spanList(500, 600, 602, 602)))
	}
	return bad
}

func edgeNums() []int {
	return []int{math.MinInt, math.MinInt + 1, -10000, -2, -1, 0, 1, 2, 4, 5, 6, 7, 555, 9997, 9998, 9999, 10000, 10001, math.MaxInt - 1, math.MaxInt}
}

func TestSetConstants(t *testing.T) {
	if impl.MaxNum != 9999 {
		t.Errorf("MaxNum = %d", impl.MaxNum)
	}
}

func TestSetOk(t *testing.T) {
	for _, s := range goodSets() {
		if !impl.SetOk(s) {
			t.Errorf("SetOk(%v) = false", s)
		}
	}
	for _, s := range badSets() {
		if impl.SetOk(s) {
			t.Errorf("SetOk(%v) = true", s)
		}
	}
	if !impl.SetOk(nil) || !impl.SetOk([]impl.Span{}) {
		t.Error("SetOk of nothing = false")
	}
}

func TestSetOkAtTheLimits(t *testing.T) {
	for _, x := range []struct {
		s    []impl.Span
		want bool
	}{
		{spanList(-1, 5), false}, {spanList(0, 5), true}, {spanList(0, 0), true}, {spanList(0, -1), false}, {spanList(-1, -1), false},
		{spanList(5, 9999), true}, {spanList(5, 10000), false}, {spanList(9999, 9999), true}, {spanList(10000, 10000), false}, {spanList(9999, 10000), false},
		{spanList(5, 6), true}, {spanList(5, 5), true}, {spanList(5, 4), false},
		{spanList(2, 4, 4, 8), false}, {spanList(2, 4, 5, 8), false}, {spanList(2, 4, 6, 8), true}, {spanList(2, 4, 7, 8), true},
		{spanList(0, 0, 1, 1), false}, {spanList(0, 0, 2, 2), true},
		{spanList(0, 9997, 9998, 9999), false}, {spanList(0, 9997, 9999, 9999), true}, {spanList(0, 9996, 9998, 9999), true},
		{spanList(2, 4, 6, 8, 9, 9), false}, {spanList(2, 4, 6, 8, 10, 10), true}, {spanList(6, 8, 2, 4), false},
	} {
		if got := impl.SetOk(x.s); got != x.want {
			t.Errorf("SetOk(%v) = %v", x.s, got)
		}
	}
}

// TestSetOkOfAllPairs holds it against the rules, one by one, at all small and all greatest ends.
func TestSetOkOfAllPairs(t *testing.T) {
	ends := []int{-2, -1, 0, 1, 2, 3, 4, 9997, 9998, 9999, 10000, 10001}
	in := func(n int) bool { return n >= 0 && n <= 9999 }
	for _, a := range ends {
		for _, b := range ends {
			alone := in(a) && in(b) && a <= b
			if got := impl.SetOk(spanList(a, b)); got != alone {
				t.Errorf("SetOk(%d-%d) = %v", a, b, got)
			}
			for _, c := range ends {
				for _, d := range ends {
					want := alone && in(c) && in(d) && c <= d && c-b > 1
					if got := impl.SetOk(spanList(a, b, c, d)); got != want {
						t.Errorf("SetOk(%d-%d,%d-%d) = %v", a, b, c, d, got)
					}
				}
			}
		}
	}
}

func TestSetHas(t *testing.T) {
	for _, s := range goodSets() {
		list := numbersOf(s)
		for _, n := range edgeNums() {
			if got := impl.SetHas(s, n); got != slices.Contains(list, n) {
				t.Errorf("SetHas(%v, %d) = %v", s, n, got)
			}
		}
		for _, x := range s {
			if !impl.SetHas(s, x.Lo) || !impl.SetHas(s, x.Hi) || impl.SetHas(s, x.Lo-1) || impl.SetHas(s, x.Hi+1) {
				t.Errorf("SetHas(%v, ..) at the ends of %v", s, x)
			}
		}
	}
}

// TestSetHasOfWrongSets: no answer is named for these, so it is told of the spans as they stand.
func TestSetHasOfWrongSets(t *testing.T) {
	for _, s := range badSets() {
		for _, n := range edgeNums() {
			want := slices.ContainsFunc(s, func(x impl.Span) bool { return x.Lo <= n && n <= x.Hi })
			if got := impl.SetHas(s, n); got != want {
				t.Errorf("SetHas(%v, %d) = %v", s, n, got)
			}
		}
	}
}

func TestSetAddWhereSpansTouch(t *testing.T) {
	for _, x := range []struct {
		s    []impl.Span
		n    int
		want []impl.Span
	}{
		// alone
		{nil, 0, spanList(0, 0)}, {nil, 5, spanList(5, 5)}, {nil, 9999, spanList(9999, 9999)},
		{spanList(3, 5), 1, spanList(1, 1, 3, 5)}, {spanList(3, 5), 7, spanList(3, 5, 7, 7)}, {spanList(3, 5, 9, 9), 7, spanList(3, 5, 7, 7, 9, 9)},
		// right below one, right above one
		{spanList(3, 5), 2, spanList(2, 5)}, {spanList(3, 5), 6, spanList(3, 6)},
		{spanList(3, 5, 8, 9), 6, spanList(3, 6, 8, 9)}, {spanList(3, 5, 8, 9), 7, spanList(3, 5, 7, 9)},
		{spanList(0, 9997), 9999, spanList(0, 9997, 9999, 9999)}, {spanList(0, 9998), 9999, spanList(0, 9999)},
		{spanList(1, 9999), 0, spanList(0, 9999)}, {spanList(2, 9999), 0, spanList(0, 0, 2, 9999)},
		// the gap between two
		{spanList(3, 5, 7, 9), 6, spanList(3, 9)}, {spanList(0, 0, 2, 2), 1, spanList(0, 2)}, {spanList(0, 0, 2, 2, 4, 4), 3, spanList(0, 0, 2, 4)},
		{spanList(0, 4999, 5001, 9999), 5000, spanList(0, 9999)},
	} {
		if got, ok := impl.SetAdd(x.s, x.n); !ok || !slices.Equal(got, x.want) || !impl.SetOk(got) {
			t.Errorf("SetAdd(%v, %d) = %v, %v, want %v", x.s, x.n, got, ok, x.want)
		}
	}
}

func TestSetAddToAnySet(t *testing.T) {
	for _, s := range goodSets() {
		list := numbersOf(s)
		for _, n := range edgeNums() {
			want, wantOk := s, false
			if n >= 0 && n <= 9999 && !slices.Contains(list, n) {
				want, wantOk = stretches(append(slices.Clone(list), n)), true
			}
			if got, ok := impl.SetAdd(s, n); ok != wantOk || !slices.Equal(got, want) {
				t.Errorf("SetAdd(%v, %d) = %v, %v, want %v, %v", s, n, got, ok, want, wantOk)
			}
		}
	}
	for _, s := range badSets() {
		for _, n := range edgeNums() {
			if got, ok := impl.SetAdd(s, n); ok || !slices.Equal(got, s) {
				t.Errorf("SetAdd(%v, %d) = %v, %v, want it as it was, false", s, n, got, ok)
			}
		}
	}
}

// addedUp puts numbers to the empty set one by one, each of them twice.
func addedUp(t *testing.T, list []int) []impl.Span {
	t.Helper()
	var s []impl.Span
	for k, n := range list {
		next, ok := impl.SetAdd(s, n)
		if want := !slices.Contains(list[:k], n); ok != want || !impl.SetOk(next) || !impl.SetHas(next, n) {
			t.Fatalf("SetAdd(%v, %d) = %v, %v, want %v", s, n, next, ok, want)
		}
		again, twice := impl.SetAdd(next, n)
		if twice || !slices.Equal(again, next) {
			t.Fatalf("SetAdd(%v, %d) a second time = %v, %v", next, n, again, twice)
		}
		s = next
	}
	return s
}

// orders: all orders of a short list.
func orders(list []int) [][]int {
	if len(list) == 0 {
		return [][]int{nil}
	}
	var all [][]int
	for k, n := range list {
		for _, rest := range orders(slices.Concat(list[:k], list[k+1:])) {
			all = append(all, append([]int{n}, rest...))
		}
	}
	return all
}

func TestSetAddInWhateverOrder(t *testing.T) {
	for _, list := range [][]int{{5, 3, 9, 4, 0}, {0, 1, 2, 3, 4, 5}, {9999, 9997, 9998, 9995, 0}, {2, 4, 6, 8, 5}, {7, 7, 7, 6, 8}} {
		want := stretches(list)
		for _, order := range orders(list) {
			if got := addedUp(t, order); !slices.Equal(got, want) || impl.SetText(got) != impl.SetText(want) {
				t.Errorf("%v added up = %v, want %v", order, got, want)
			}
		}
	}
}

func TestSetAddOfManyNumbers(t *testing.T) {
	// Steps of 7 go through all places below 300 by 300, so that gaps open and close all over.
	var list []int
	for k := range 300 {
		list = append(list, k*7%300+9700)
	}
	for _, cut := range []int{1, 2, 40, 43, 150, 299, 300} {
		want := stretches(list[:cut])
		if got := addedUp(t, list[:cut]); !slices.Equal(got, want) || impl.SetSize(got) != cut {
			t.Errorf("the first %d added up = %v, want %v", cut, got, want)
		}
		back := slices.Clone(list[:cut])
		slices.Reverse(back)
		if got := addedUp(t, back); !slices.Equal(got, want) {
			t.Errorf("the first %d, the last one first, added up = %v, want %v", cut, got, want)
		}
	}
}

func TestSetJoin(t *testing.T) {
	for _, x := range []struct{ a, b, want []impl.Span }{
		{nil, nil, nil},
		{spanList(3, 5), nil, spanList(3, 5)},
		{spanList(3, 5), []impl.Span{}, spanList(3, 5)},
		{spanList(3, 5), spanList(3, 5), spanList(3, 5)},
		// one within the other
		{spanList(3, 9), spanList(4, 8), spanList(3, 9)}, {spanList(3, 9), spanList(3, 8), spanList(3, 9)}, {spanList(3, 9), spanList(4, 9), spanList(3, 9)},
		{spanList(3, 9, 20, 30), spanList(4, 5, 7, 7, 22, 25), spanList(3, 9, 20, 30)}, {spanList(3, 9), spanList(0, 20), spanList(0, 20)},
		// overlapping
		{spanList(3, 5), spanList(5, 9), spanList(3, 9)}, {spanList(3, 6), spanList(5, 9), spanList(3, 9)},
		{spanList(0, 2, 4, 6, 8, 10), spanList(1, 9), spanList(0, 10)}, {spanList(0, 2, 4, 6, 8, 10), spanList(2, 4, 12, 12), spanList(0, 6, 8, 10, 12, 12)},
		// touching
		{spanList(3, 5), spanList(6, 9), spanList(3, 9)}, {spanList(0, 0, 2, 2, 4, 4), spanList(1, 1, 3, 3), spanList(0, 4)},
		{spanList(0, 0, 3, 5, 9, 9), spanList(1, 2, 7, 8), spanList(0, 5, 7, 9)}, {spanList(0, 4999), spanList(5000, 9999), spanList(0, 9999)},
		// apart
		{spanList(3, 5), spanList(7, 9), spanList(3, 5, 7, 9)}, {spanList(0, 0), spanList(9999, 9999), spanList(0, 0, 9999, 9999)},
		{spanList(0, 1, 6, 7), spanList(3, 4, 9, 10), spanList(0, 1, 3, 4, 6, 7, 9, 10)},
		{spanList(0, 1, 3, 4), spanList(6, 7, 9, 10), spanList(0, 1, 3, 4, 6, 7, 9, 10)},
	} {
		for _, pair := range [][2][]impl.Span{{x.a, x.b}, {x.b, x.a}} {
			if got, ok := impl.SetJoin(pair[0], pair[1]); !ok || !slices.Equal(got, x.want) {
				t.Errorf("SetJoin(%v, %v) = %v, %v, want %v", pair[0], pair[1], got, ok, x.want)
			}
		}
	}
}

// TestSetsOfAllPairs: all sets of seven numbers, at the least ones and at the greatest.
func TestSetsOfAllPairs(t *testing.T) {
	for _, base := range []int{0, 9993} {
		all := smallSets(base, 7)
		for maskA, a := range all {
			for maskB, b := range all {
				got, ok := impl.SetJoin(a, b)
				if !ok || !slices.Equal(got, all[maskA|maskB]) {
					t.Fatalf("SetJoin(%v, %v) = %v, %v, want %v", a, b, got, ok, all[maskA|maskB])
				}
				if apart := impl.SetApart(a, b); apart != (maskA&maskB == 0) {
					t.Fatalf("SetApart(%v, %v) = %v", a, b, apart)
				}
			}
		}
	}
}

// TestSetJoinOfThree: which two are joined first, and in which order, is not to be seen.
func TestSetJoinOfThree(t *testing.T) {
	joined := func(a, b []impl.Span) []impl.Span {
		both, ok := impl.SetJoin(a, b)
		if !ok {
			t.Fatalf("SetJoin(%v, %v) = %v, false", a, b, both)
		}
		return both
	}
	all := smallSets(40, 5)
	for maskA, a := range all {
		for maskB, b := range all {
			for maskC, c := range all {
				want := all[maskA|maskB|maskC]
				for _, got := range [][]impl.Span{joined(joined(a, b), c), joined(a, joined(b, c)), joined(c, joined(a, b))} {
					if !slices.Equal(got, want) {
						t.Fatalf("%v, %v and %v joined = %v, want %v", a, b, c, got, want)
					}
				}
			}
		}
	}
}

func TestSetsOfManySpans(t *testing.T) {
	all := widestSets()
	for _, a := range all {
		for _, b := range all {
			listA, listB := numbersOf(a), numbersOf(b)
			want := stretches(slices.Concat(listA, listB))
			got, ok := impl.SetJoin(a, b)
			if !ok || !slices.Equal(got, want) {
				t.Errorf("SetJoin of %d and %d spans = %d spans, %v, want %d", len(a), len(b), len(got), ok, len(want))
			}
			apart := impl.SetSize(want) == len(listA)+len(listB)
			if got := impl.SetApart(a, b); got != apart {
				t.Errorf("SetApart of %d and %d spans = %v", len(a), len(b), got)
			}
		}
	}
}

func TestSetJoinRefuses(t *testing.T) {
	for _, bad := range badSets() {
		for _, good := range [][]impl.Span{nil, {}, spanList(3, 5), spanList(0, 9999), bad} {
			for _, pair := range [][2][]impl.Span{{bad, good}, {good, bad}} {
				if got, ok := impl.SetJoin(pair[0], pair[1]); ok || len(got) != 0 {
					t.Errorf("SetJoin(%v, %v) = %v, %v, want nothing, false", pair[0], pair[1], got, ok)
				}
			}
		}
	}
}

func TestSetSize(t *testing.T) {
	for _, s := range goodSets() {
		found := 0
		for n := -5; n <= 10005; n++ {
			if impl.SetHas(s, n) {
				found++
			}
		}
		if got := impl.SetSize(s); got != found || got != len(numbersOf(s)) {
			t.Errorf("SetSize(%v) = %d, SetHas finds %d", s, got, found)
		}
	}
	for _, s := range badSets() {
		if got := impl.SetSize(s); got != 0 {
			t.Errorf("SetSize(%v) = %d, want 0", s, got)
		}
	}
	for _, x := range []struct {
		s    []impl.Span
		want int
	}{{nil, 0}, {[]impl.Span{}, 0}, {spanList(0, 0), 1}, {spanList(0, 9999), 10000}, {spanList(3, 5, 7, 7), 4}, {spanList(9999, 9999), 1}} {
		if got := impl.SetSize(x.s); got != x.want {
			t.Errorf("SetSize(%v) = %d, want %d", x.s, got, x.want)
		}
	}
}

func TestSetApart(t *testing.T) {
	for _, x := range []struct {
		a, b []impl.Span
		want bool
	}{
		{nil, nil, true}, {nil, []impl.Span{}, true}, {nil, spanList(0, 9999), true}, {spanList(3, 5), spanList(3, 5), false},
		// one number in common: between, at an end, in the first, in the last
		{spanList(3, 5), spanList(5, 9), false}, {spanList(3, 5), spanList(4, 4), false}, {spanList(3, 5), spanList(3, 3), false}, {spanList(3, 5), spanList(5, 5), false},
		{spanList(0, 0, 9999, 9999), spanList(9999, 9999), false}, {spanList(0, 0, 9999, 9999), spanList(0, 0), false},
		{spanList(1, 1, 3, 3, 5, 5, 7, 7), spanList(0, 0, 2, 2, 4, 5), false}, {spanList(1, 1, 3, 3, 5, 5, 7, 7), spanList(0, 0, 2, 2, 6, 7), false},
		{spanList(1, 9), spanList(0, 0, 5, 5, 20, 20), false}, {spanList(20, 30, 40, 50), spanList(0, 1, 45, 46), false},
		// only touching
		{spanList(3, 5), spanList(6, 9), true}, {spanList(3, 5), spanList(2, 2), true}, {spanList(1, 1, 3, 3), spanList(0, 0, 2, 2, 4, 4), true},
		{spanList(0, 4999), spanList(5000, 9999), true}, {spanList(0, 0, 9999, 9999), spanList(1, 9998), true},
		// further off
		{spanList(3, 5), spanList(7, 9), true}, {spanList(0, 0), spanList(9999, 9999), true}, {spanList(3, 5, 30, 40), spanList(10, 20, 50, 60), true},
	} {
		if impl.SetApart(x.a, x.b) != x.want || impl.SetApart(x.b, x.a) != x.want {
			t.Errorf("SetApart(%v, %v), or the other way, is not %v", x.a, x.b, x.want)
		}
	}
	for _, bad := range badSets() {
		for _, good := range [][]impl.Span{nil, {}, spanList(700, 701), bad} {
			if impl.SetApart(bad, good) || impl.SetApart(good, bad) {
				t.Errorf("SetApart(%v, %v), or the other way, is true", bad, good)
			}
		}
	}
}

func TestSetText(t *testing.T) {
	for _, x := range []struct {
		s    []impl.Span
		want string
	}{
		{nil, ""}, {[]impl.Span{}, ""},
		{spanList(0, 0), "0"}, {spanList(9999, 9999), "9999"}, {spanList(0, 9999), "0-9999"}, {spanList(3, 4), "3-4"},
		{spanList(0, 0, 3, 5, 9, 9), "0,3-5,9"}, {spanList(0, 5, 7, 9), "0-5,7-9"}, {spanList(1, 1, 3, 3), "1,3"},
		// no answer is named for wrong ones, so they are written as they stand
		{spanList(1, 2, 3, 4), "1-2,3-4"}, {spanList(5, 3), "5-3"}, {spanList(-1, -1), "-1"}, {spanList(-2, -1), "-2--1"}, {spanList(0, 10000), "0-10000"},
		{spanList(7, 7, 7, 7), "7,7"}, {spanList(9, 9, 3, 5), "9,3-5"}, {spanList(0, -1), "0--1"},
		{spanList(math.MinInt, math.MaxInt), "-9223372036854775808-9223372036854775807"},
	} {
		if got := impl.SetText(x.s); got != x.want {
			t.Errorf("SetText(%v) = %q, want %q", x.s, got, x.want)
		}
	}
	told := map[string]int{}
	all := smallSets(8, 8)
	for _, s := range all {
		told[impl.SetText(s)]++
	}
	if len(told) != len(all) {
		t.Errorf("%d sets have %d texts", len(all), len(told))
	}
}

var spareSpan = impl.Span{Lo: spareMark, Hi: spareMark}

// spareSpans is a list with marked room behind it.
func spareSpans(s []impl.Span) []impl.Span {
	out := append(make([]impl.Span, 0, len(s)+3), s...)
	return append(out, spareSpan, spareSpan, spareSpan)[:len(s)]
}

// asGiven: the list is as it was, and so is the room behind it.
func asGiven(s, was []impl.Span) bool {
	behind := s[len(s):cap(s)]
	return slices.Equal(s, was) && len(behind) >= 3 && !slices.ContainsFunc(behind[:3], func(x impl.Span) bool { return x != spareSpan })
}

// overwrite writes into all of an answer, and into the room behind it.
func overwrite(s []impl.Span) {
	s = s[:cap(s)]
	for k := range s {
		s[k] = impl.Span{Lo: -1000, Hi: -1000}
	}
}

func TestSetAddSharesNothing(t *testing.T) {
	for _, s := range append(goodSets(), badSets()...) {
		for _, n := range edgeNums() {
			given := spareSpans(s)
			got, _ := impl.SetAdd(given, n)
			if !asGiven(given, s) {
				t.Errorf("SetAdd(%v, %d) wrote into it", s, n)
			}
			overwrite(got)
			if !asGiven(given, s) {
				t.Errorf("SetAdd(%v, %d): the answer shares memory with it", s, n)
			}
		}
	}
}

func TestSetJoinSharesNothing(t *testing.T) {
	others := [][]impl.Span{nil, spanList(0, 0), spanList(3, 5), spanList(2, 2, 4, 9997), spanList(9999, 9999), spanList(0, 9999), spanList(5, 3)}
	for _, s := range append(goodSets(), badSets()...) {
		for _, other := range append(others, s) {
			a, b := spareSpans(s), spareSpans(other)
			left, _ := impl.SetJoin(a, b)
			right, _ := impl.SetJoin(b, a)
			self, _ := impl.SetJoin(a, a)
			if !asGiven(a, s) || !asGiven(b, other) {
				t.Errorf("SetJoin of %v and %v wrote into one", s, other)
			}
			was := slices.Clone(right)
			overwrite(left)
			overwrite(self)
			if !asGiven(a, s) || !asGiven(b, other) || !slices.Equal(right, was) {
				t.Errorf("SetJoin of %v and %v: the answer shares memory", s, other)
			}
			overwrite(right)
			if !asGiven(a, s) || !asGiven(b, other) {
				t.Errorf("SetJoin of %v and %v: the answer shares memory", other, s)
			}
		}
	}
}

func TestAskingLeavesTheSet(t *testing.T) {
	for _, s := range append(goodSets(), badSets()...) {
		a, b := spareSpans(s), spareSpans(spanList(2, 2, 4, 9997))
		impl.SetOk(a)
		impl.SetSize(a)
		impl.SetText(a)
		impl.SetApart(a, b)
		impl.SetApart(b, a)
		for _, n := range edgeNums() {
			impl.SetHas(a, n)
		}
		if !asGiven(a, s) || !asGiven(b, spanList(2, 2, 4, 9997)) {
			t.Errorf("asking wrote into %v", s)
		}
	}
}
