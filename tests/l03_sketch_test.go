package tests

import (
	"math"
	"slices"
	"testing"

	"loop.example/g00491/impl"
)

// exactly holds two sketches against each other without the program's own SketchSame.
func exactly(a, b impl.Sketch) bool {
	return a.Count == b.Count && a.Sum == b.Sum && a.Min == b.Min && a.Max == b.Max &&
		slices.Equal(a.Hist, b.Hist) && slices.Equal(a.Regs, b.Regs) &&
		slices.EqualFunc(a.Rows, b.Rows, func(x, y []int) bool { return slices.Equal(x, y) })
}

// twin copies a sketch of any shape, so that one can be changed and the other kept.
func twin(s impl.Sketch) impl.Sketch {
	s.Hist, s.Regs, s.Rows = slices.Clone(s.Hist), slices.Clone(s.Regs), slices.Clone(s.Rows)
	for k := range s.Rows {
		s.Rows[k] = slices.Clone(s.Rows[k])
	}
	return s
}

// changed is a twin with one thing turned.
func changed(s impl.Sketch, turn func(*impl.Sketch)) impl.Sketch {
	s = twin(s)
	turn(&s)
	return s
}

// heap is the sketch of a list as the document's words have it, counted apart from the program's own functions.
func heap(list []int) impl.Sketch {
	s := impl.Sketch{Hist: make([]int, 8), Regs: make([]int, 8), Rows: [][]int{make([]int, 4), make([]int, 4)}}
	for _, v := range list {
		if v < 0 || v > 1000000 {
			continue
		}
		if s.Count == 0 || v < s.Min {
			s.Min = v
		}
		s.Max = max(s.Max, v)
		s.Count, s.Sum = s.Count+1, min(s.Sum+v, 1000000000)
		s.Hist[thirds(v)]++
		place := mixed(v) % 8
		s.Regs[place] = max(s.Regs[place], noughts(mixed(v))+1)
		s.Rows[0][mixed(v)%4]++
		s.Rows[1][mixed(v+1)%4]++
	}
	return s
}

func mixed(n int) int {
	n = (min(n, 1000000)*40503 + 12345) % 65536
	return n ^ n/256
}

func thirds(v int) int {
	k := 0
	for ; v > 0; v /= 8 {
		k++
	}
	return k
}

func noughts(n int) int {
	k := 0
	for ; k < 16 && n%2 == 0; n /= 2 {
		k++
	}
	return k
}

// fullSketch has every number that Add bounds at its limit.
func fullSketch() impl.Sketch {
	return impl.Sketch{
		Count: impl.Top, Sum: impl.Top, Min: 0, Max: impl.MaxValue,
		Hist: slices.Repeat([]int{impl.Top}, 8), Regs: slices.Repeat([]int{17}, 8),
		Rows: [][]int{slices.Repeat([]int{impl.Top}, 4), slices.Repeat([]int{impl.Top}, 4)},
	}
}

// nearlyFull is one below it, so that what is put to it first decides nothing.
func nearlyFull() impl.Sketch {
	return impl.Sketch{
		Count: impl.Top - 1, Sum: impl.Top - 3, Min: 7, Max: impl.MaxValue - 1,
		Hist: slices.Repeat([]int{impl.Top - 1}, 8), Regs: slices.Repeat([]int{3}, 8),
		Rows: [][]int{slices.Repeat([]int{impl.Top - 1}, 4), slices.Repeat([]int{impl.Top - 2}, 4)},
	}
}

// goodSketches: such as are SketchOk.
func goodSketches() []impl.Sketch {
	return []impl.Sketch{
		heap(nil),
		heap([]int{0}),
		heap([]int{5, 100, 5}),
		heap([]int{9, 0}),
		heap([]int{4849}),
		heap([]int{1000000, 999999}),
		heap([]int{1, 2, 3, 7, 8, 63, 64, 512, 4096, 32768, 262144}),
		nearlyFull(),
		fullSketch(),
	}
}

// badSketches: each is off in one thing alone.
func badSketches() map[string]impl.Sketch {
	some, none := heap([]int{5, 100, 5}), heap(nil)
	bad := map[string]impl.Sketch{"zero": {}, "zero with a Count": {Count: 1}}
	for name, turn := range map[string]func(*impl.Sketch){
		"Hist too short":      func(s *impl.Sketch) { s.Hist = s.Hist[:7] },
		"Hist too long":       func(s *impl.Sketch) { s.Hist = append(s.Hist, 0) },
		"Hist nil":            func(s *impl.Sketch) { s.Hist = nil },
		"Hist empty":          func(s *impl.Sketch) { s.Hist = []int{} },
		"Regs too short":      func(s *impl.Sketch) { s.Regs = s.Regs[:7] },
		"Regs too long":       func(s *impl.Sketch) { s.Regs = append(s.Regs, 0) },
		"Regs nil":            func(s *impl.Sketch) { s.Regs = nil },
		"one row":             func(s *impl.Sketch) { s.Rows = s.Rows[:1] },
		"three rows":          func(s *impl.Sketch) { s.Rows = append(s.Rows, make([]int, 4)) },
		"three rows, one nil": func(s *impl.Sketch) { s.Rows = append(s.Rows, nil) },
		"Rows nil":            func(s *impl.Sketch) { s.Rows = nil },
		"two nil rows":        func(s *impl.Sketch) { s.Rows = make([][]int, 2) },
		"row 0 too short":     func(s *impl.Sketch) { s.Rows[0] = s.Rows[0][:3] },
		"row 1 too short":     func(s *impl.Sketch) { s.Rows[1] = s.Rows[1][:3] },
		"row 0 too long":      func(s *impl.Sketch) { s.Rows[0] = append(s.Rows[0], 0) },
		"row 1 too long":      func(s *impl.Sketch) { s.Rows[1] = append(s.Rows[1], 0) },
		"row 1 nil":           func(s *impl.Sketch) { s.Rows[1] = nil },
		"rows of 3 and 5":     func(s *impl.Sketch) { s.Rows = [][]int{make([]int, 3), make([]int, 5)} },
		"Hist for Rows":       func(s *impl.Sketch) { s.Hist, s.Rows[0] = s.Rows[0], s.Hist },
		"Count below 0":       func(s *impl.Sketch) { s.Count = -1 },
		"Count above Top":     func(s *impl.Sketch) { s.Count = impl.Top + 1 },
		"Count least":         func(s *impl.Sketch) { s.Count = math.MinInt },
		"Sum below 0":         func(s *impl.Sketch) { s.Sum = -1 },
		"Sum above Top":       func(s *impl.Sketch) { s.Sum = impl.Top + 1 },
		"Sum greatest":        func(s *impl.Sketch) { s.Sum = math.MaxInt },
		"Min below 0":         func(s *impl.Sketch) { s.Min = -1 },
		"Min above Max":       func(s *impl.Sketch) { s.Min = s.Max + 1 },
		"Max above MaxValue":  func(s *impl.Sketch) { s.Max = impl.MaxValue + 1 },
		"both above MaxValue": func(s *impl.Sketch) { s.Min, s.Max = impl.MaxValue+1, impl.MaxValue+1 },
		"both below 0":        func(s *impl.Sketch) { s.Min, s.Max = -1, -1 },
	} {
		bad[name] = changed(some, turn)
		bad[name+", without numbers"] = changed(none, turn)
	}
	for name, n := range map[string]int{"below 0": -1, "above Top": impl.Top + 1, "greatest": math.MaxInt, "least": math.MinInt} {
		for k := range 8 {
			bad["Hist "+name+impl.Digits(k)] = changed(some, func(s *impl.Sketch) { s.Hist[k] = n })
			bad["Regs "+name+impl.Digits(k)] = changed(some, func(s *impl.Sketch) { s.Regs[k] = n })
			bad["Rows "+name+impl.Digits(k)] = changed(some, func(s *impl.Sketch) { s.Rows[k/4][k%4] = n })
		}
	}
	for k := range 8 {
		bad["Regs 18 at "+impl.Digits(k)] = changed(some, func(s *impl.Sketch) { s.Regs[k] = 18 })
		bad["Count 0 with Hist at "+impl.Digits(k)] = changed(none, func(s *impl.Sketch) { s.Hist[k] = 1 })
		bad["Count 0 with Regs at "+impl.Digits(k)] = changed(none, func(s *impl.Sketch) { s.Regs[k] = 1 })
		bad["Count 0 with Rows at "+impl.Digits(k)] = changed(none, func(s *impl.Sketch) { s.Rows[k/4][k%4] = 1 })
	}
	bad["Count 0 with Sum"] = changed(none, func(s *impl.Sketch) { s.Sum = 1 })
	bad["Count 0 with Max"] = changed(none, func(s *impl.Sketch) { s.Max = 1 })
	bad["Count 0 with Min"] = changed(none, func(s *impl.Sketch) { s.Min = 1 })
	bad["Count 0 with Min and Max"] = changed(none, func(s *impl.Sketch) { s.Min, s.Max = 1, 1 })
	bad["Count 0 with all"] = changed(some, func(s *impl.Sketch) { s.Count = 0 })
	return bad
}

func TestSketchConstants(t *testing.T) {
	if impl.Regs != 8 || impl.Cols != 4 {
		t.Errorf("Regs, Cols = %d, %d", impl.Regs, impl.Cols)
	}
}

func TestSketchNew(t *testing.T) {
	s := impl.SketchNew()
	if !exactly(s, heap(nil)) || !impl.SketchOk(s) {
		t.Errorf("SketchNew() = %v", s)
	}
	s.Hist[0], s.Regs[0], s.Rows[0][0], s.Rows[1][0] = 1, 1, 1, 1
	if again := impl.SketchNew(); !exactly(again, heap(nil)) {
		t.Errorf("a second SketchNew() = %v, want noughts", again)
	}
}

func TestSketchOk(t *testing.T) {
	for _, s := range goodSketches() {
		if !impl.SketchOk(s) {
			t.Errorf("SketchOk(%v) = false", s)
		}
	}
	for name, s := range badSketches() {
		if impl.SketchOk(s) {
			t.Errorf("%s: SketchOk(%v) = true", name, s)
		}
	}
}

func TestSketchOkAtTheLimits(t *testing.T) {
	one := heap([]int{5})
	for name, turn := range map[string]func(*impl.Sketch){
		"Count 1":              func(s *impl.Sketch) { s.Count = 1 },
		"Count one below Top":  func(s *impl.Sketch) { s.Count = impl.Top - 1 },
		"Count Top":            func(s *impl.Sketch) { s.Count = impl.Top },
		"Sum 0":                func(s *impl.Sketch) { s.Sum = 0 },
		"Sum above MaxValue":   func(s *impl.Sketch) { s.Sum = impl.MaxValue + 1 },
		"Sum Top":              func(s *impl.Sketch) { s.Sum = impl.Top },
		"Min and Max 0":        func(s *impl.Sketch) { s.Min, s.Max = 0, 0 },
		"Min one below Max":    func(s *impl.Sketch) { s.Min, s.Max = 5, 6 },
		"Min equal to Max":     func(s *impl.Sketch) { s.Min, s.Max = 6, 6 },
		"Max one below":        func(s *impl.Sketch) { s.Max = impl.MaxValue - 1 },
		"Max MaxValue":         func(s *impl.Sketch) { s.Max = impl.MaxValue },
		"Min and Max MaxValue": func(s *impl.Sketch) { s.Min, s.Max = impl.MaxValue, impl.MaxValue },
		"Hist of noughts":      func(s *impl.Sketch) { s.Hist = make([]int, 8) },
		"Hist Top":             func(s *impl.Sketch) { s.Hist[0], s.Hist[7] = impl.Top, impl.Top },
		"Regs 16":              func(s *impl.Sketch) { s.Regs[0], s.Regs[7] = 16, 16 },
		"Regs 17":              func(s *impl.Sketch) { s.Regs[0], s.Regs[7] = 17, 17 },
		"Rows Top":             func(s *impl.Sketch) { s.Rows[0][0], s.Rows[1][3] = impl.Top, impl.Top },
		"spare room":           func(s *impl.Sketch) { s.Hist = append(s.Hist, -1, -1)[:8] },
	} {
		if s := changed(one, turn); !impl.SketchOk(s) {
			t.Errorf("%s: SketchOk(%v) = false", name, s)
		}
	}
}

func TestSketched(t *testing.T) {
	for _, x := range []struct {
		list []int
		want impl.Sketch
	}{
		{[]int{5, 100, 5}, impl.Sketch{Count: 3, Sum: 110, Min: 5, Max: 100,
			Hist: []int{0, 2, 0, 1, 0, 0, 0, 0}, Regs: []int{4, 0, 0, 1, 0, 0, 0, 0}, Rows: [][]int{{1, 0, 0, 2}, {0, 0, 2, 1}}}},
		{[]int{0}, impl.Sketch{Count: 1,
			Hist: []int{1, 0, 0, 0, 0, 0, 0, 0}, Regs: []int{0, 1, 0, 0, 0, 0, 0, 0}, Rows: [][]int{{0, 1, 0, 0}, {0, 0, 1, 0}}}},
		{[]int{4849}, impl.Sketch{Count: 1, Sum: 4849, Min: 4849, Max: 4849,
			Hist: []int{0, 0, 0, 0, 0, 1, 0, 0}, Regs: []int{17, 0, 0, 0, 0, 0, 0, 0}, Rows: [][]int{{1, 0, 0, 0}, {0, 1, 0, 0}}}},
		// One above MaxValue counts as MaxValue for Mix, so both rows have it at the same place.
		{[]int{1000000}, impl.Sketch{Count: 1, Sum: 1000000, Min: 1000000, Max: 1000000,
			Hist: []int{0, 0, 0, 0, 0, 0, 0, 1}, Regs: []int{0, 0, 2, 0, 0, 0, 0, 0}, Rows: [][]int{{0, 0, 1, 0}, {0, 0, 1, 0}}}},
		{[]int{1, 2, 3, 7, 8, 63, 64, 1000000}, impl.Sketch{Count: 8, Sum: 1000148, Min: 1, Max: 1000000,
			Hist: []int{0, 4, 2, 1, 0, 0, 0, 1}, Regs: []int{5, 1, 2, 1, 3, 1, 2, 0}, Rows: [][]int{{3, 2, 2, 1}, {6, 0, 1, 1}}}},
	} {
		if got := impl.Sketched(x.list); !exactly(got, x.want) {
			t.Errorf("Sketched(%v) = %v, want %v", x.list, got, x.want)
		}
	}
	for _, list := range [][]int{nil, {}, {-1}, {1000001}, {math.MinInt, math.MaxInt, impl.Top}} {
		if got := impl.Sketched(list); !exactly(got, heap(nil)) {
			t.Errorf("Sketched(%v) = %v, want no numbers", list, got)
		}
	}
	list := []int{7, -1, 1000001, 0, math.MinInt, 1000000, impl.Top, 999999, math.MaxInt, 7}
	if got, want := impl.Sketched(list), heap([]int{7, 0, 1000000, 999999, 7}); !exactly(got, want) {
		t.Errorf("Sketched(%v) = %v, want %v", list, got, want)
	}
}

// longList: numbers of all sizes, some of them more than once, some out of range.
func longList(n int) []int {
	var list []int
	for k := range n {
		list = append(list, (k*k*7919+k*31)%(1<<(k%22))-2)
	}
	return list
}

func TestSketchedOfManyNumbers(t *testing.T) {
	list := longList(3000)
	if got, want := impl.Sketched(list), heap(list); !exactly(got, want) || !impl.SketchOk(got) {
		t.Errorf("Sketched = %v, want %v", got, want)
	}
	// More than a thousand of the greatest: the sum stops at Top, the counts go on.
	most := slices.Repeat([]int{impl.MaxValue}, 1002)
	if got := impl.Sketched(most); got.Sum != impl.Top || got.Count != 1002 || got.Hist[7] != 1002 || !impl.SketchOk(got) {
		t.Errorf("Sketched of 1002 times MaxValue = %v", got)
	}
}

func TestInsertOfAllBuckets(t *testing.T) {
	for v := 0; v <= impl.MaxValue; v += 1 + v/300 {
		if got, ok := impl.Insert(impl.SketchNew(), v); !ok || !exactly(got, heap([]int{v})) {
			t.Fatalf("Insert(SketchNew(), %d) = %v, %v, want %v", v, got, ok, heap([]int{v}))
		}
	}
}

func TestInsert(t *testing.T) {
	s := heap(nil)
	var list []int
	for _, v := range []int{500, 500, 3, 0, 999999, 1000000, 501, 1} {
		list = append(list, v)
		next, ok := impl.Insert(s, v)
		if !ok || !exactly(next, heap(list)) {
			t.Errorf("Insert(%v, %d) = %v, %v, want %v", s, v, next, ok, heap(list))
		}
		s = next
	}
	for _, s := range goodSketches() {
		for _, v := range []int{math.MinInt, -impl.Top, -1, impl.MaxValue + 1, impl.Top - 1, impl.Top, impl.Top + 1, math.MaxInt} {
			if got, ok := impl.Insert(s, v); ok || !exactly(got, s) {
				t.Errorf("Insert(%v, %d) = %v, %v, want it as it was, false", s, v, got, ok)
			}
		}
	}
	for name, s := range badSketches() {
		for _, v := range []int{-1, 0, 5, impl.MaxValue, impl.MaxValue + 1} {
			if got, ok := impl.Insert(s, v); ok || !exactly(got, s) {
				t.Errorf("%s: Insert(%v, %d) = %v, %v, want it as it was, false", name, s, v, got, ok)
			}
		}
	}
}

func TestInsertStopsAtTop(t *testing.T) {
	for _, v := range []int{0, 5, 4849, impl.MaxValue} {
		if got, ok := impl.Insert(fullSketch(), v); !ok || !exactly(got, fullSketch()) {
			t.Errorf("Insert(fullSketch(), %d) = %v, %v", v, got, ok)
		}
	}
	want := nearlyFull()
	want.Count, want.Sum, want.Min = impl.Top, impl.Top, 5
	want.Hist[1], want.Rows[0][3], want.Rows[1][2] = impl.Top, impl.Top, impl.Top-1
	if got, ok := impl.Insert(nearlyFull(), 5); !ok || !exactly(got, want) {
		t.Errorf("Insert(nearlyFull(), 5) = %v, %v, want %v", got, ok, want)
	}
	want = nearlyFull()
	want.Count, want.Max, want.Sum = impl.Top, impl.MaxValue, impl.Top
	want.Hist[7], want.Rows[0][2], want.Rows[1][2] = impl.Top, impl.Top, impl.Top-1
	if got, ok := impl.Insert(nearlyFull(), impl.MaxValue); !ok || !exactly(got, want) {
		t.Errorf("Insert(nearlyFull(), MaxValue) = %v, %v, want %v", got, ok, want)
	}
}

func TestMerge(t *testing.T) {
	a := impl.Sketch{Count: 3, Sum: 20, Min: 4, Max: 9,
		Hist: []int{1, 2, 3, 4, 5, 6, 7, 8}, Regs: []int{1, 0, 17, 4, 5, 0, 2, 9}, Rows: [][]int{{1, 2, 3, 4}, {5, 6, 7, 8}}}
	b := impl.Sketch{Count: 2, Sum: impl.Top - 20, Min: 6, Max: 8,
		Hist: []int{9, 0, impl.Top, 1, impl.Top - 5, impl.Top - 6, 0, impl.Top - 7}, Regs: []int{0, 3, 16, 4, 6, 0, 1, 10},
		Rows: [][]int{{10, 20, 30, 40}, {impl.Top, impl.Top - 6, impl.Top - 8, impl.Top - 7}}}
	want := impl.Sketch{Count: 5, Sum: impl.Top, Min: 4, Max: 9,
		Hist: []int{10, 2, impl.Top, 5, impl.Top, impl.Top, 7, impl.Top}, Regs: []int{1, 3, 17, 4, 6, 0, 2, 10},
		Rows: [][]int{{11, 22, 33, 44}, {impl.Top, impl.Top, impl.Top - 1, impl.Top}}}
	for _, x := range [][2]impl.Sketch{{a, b}, {b, a}} {
		if got, ok := impl.Merge(x[0], x[1]); !ok || !exactly(got, want) {
			t.Errorf("Merge(%v, %v) = %v, %v, want %v", x[0], x[1], got, ok, want)
		}
	}
	if got, ok := impl.Merge(fullSketch(), fullSketch()); !ok || !exactly(got, fullSketch()) {
		t.Errorf("Merge(fullSketch(), fullSketch()) = %v, %v", got, ok)
	}
}

func TestMergeRefuses(t *testing.T) {
	for name, bad := range badSketches() {
		for _, good := range goodSketches() {
			for _, x := range [][2]impl.Sketch{{bad, good}, {good, bad}, {bad, bad}} {
				if got, ok := impl.Merge(x[0], x[1]); ok || !exactly(got, impl.Sketch{}) {
					t.Errorf("%s: Merge(%v, %v) = %v, %v, want zero, false", name, x[0], x[1], got, ok)
				}
			}
		}
	}
}

func TestMergeWithNoNumbers(t *testing.T) {
	none := impl.SketchNew()
	for _, s := range goodSketches() {
		left, okLeft := impl.Merge(none, s)
		right, okRight := impl.Merge(s, none)
		if !okLeft || !okRight || !exactly(left, s) || !exactly(right, s) {
			t.Errorf("%v merged with no numbers = %v, %v; %v, %v", s, left, okLeft, right, okRight)
		}
	}
	both, ok := impl.Merge(none, none)
	if !ok || !exactly(both, heap(nil)) {
		t.Errorf("no numbers merged with themselves = %v, %v", both, ok)
	}
	// A least of 0 that came is kept, the 0 of one without numbers is not.
	if got, ok := impl.Merge(heap([]int{0}), heap([]int{9})); !ok || got.Min != 0 || got.Max != 9 {
		t.Errorf("0 and 9 = %v, %v", got, ok)
	}
	if got, ok := impl.Merge(heap([]int{9}), none); !ok || got.Min != 9 || got.Max != 9 {
		t.Errorf("9 and none = %v, %v", got, ok)
	}
}

// merged is Merge where both are SketchOk.
func merged(t *testing.T, a, b impl.Sketch) impl.Sketch {
	t.Helper()
	got, ok := impl.Merge(a, b)
	if !ok || !impl.SketchOk(got) {
		t.Fatalf("Merge(%v, %v) = %v, %v", a, b, got, ok)
	}
	return got
}

func TestMergeInWhateverOrder(t *testing.T) {
	for _, a := range goodSketches() {
		for _, b := range goodSketches() {
			if !exactly(merged(t, a, b), merged(t, b, a)) {
				t.Errorf("Merge(%v, %v) is another one the other way", a, b)
			}
			for _, c := range goodSketches() {
				checkThreeMerged(t, a, b, c)
			}
		}
	}
}

// checkThreeMerged: three come to the same in all orders, the pair that is merged first on either side.
func checkThreeMerged(t *testing.T, a, b, c impl.Sketch) {
	t.Helper()
	want := merged(t, merged(t, a, b), c)
	for _, x := range [][3]impl.Sketch{{a, b, c}, {a, c, b}, {b, a, c}, {b, c, a}, {c, a, b}, {c, b, a}} {
		left := merged(t, merged(t, x[0], x[1]), x[2])
		right := merged(t, x[0], merged(t, x[1], x[2]))
		if !exactly(left, want) || !exactly(right, want) {
			t.Fatalf("%v come to %v from the left, %v from the right, want %v", x, left, right, want)
		}
	}
}

func TestMergedIsWhatAllNumbersComeTo(t *testing.T) {
	list := append(longList(60), 0, impl.MaxValue, impl.MaxValue-1, impl.MaxValue+1, -1, impl.Top, 4849, 4849)
	want := heap(list)
	back := slices.Clone(list)
	slices.Reverse(back)
	sorted := slices.Sorted(slices.Values(list))
	for _, order := range [][]int{list, back, sorted} {
		if got := impl.Sketched(order); !exactly(got, want) {
			t.Errorf("Sketched(%v) = %v, want %v", order, got, want)
		}
		for cut := range len(order) + 1 {
			one, two := impl.Sketched(order[:cut]), impl.Sketched(order[cut:])
			if !exactly(merged(t, one, two), want) || !exactly(merged(t, two, one), want) {
				t.Errorf("cut at %d: %v and %v come to another one than %v", cut, one, two, want)
			}
		}
	}
	for k := 0; k+7 < len(list); k += 7 {
		checkThreeMerged(t, impl.Sketched(list[:k]), impl.Sketched(list[k:k+7]), impl.Sketched(list[k+7:]))
		three := merged(t, impl.Sketched(list[k+7:]), merged(t, impl.Sketched(list[:k]), impl.Sketched(list[k:k+7])))
		if !exactly(three, want) {
			t.Errorf("three parts, cut at %d, come to %v, want %v", k, three, want)
		}
	}
}

func TestInsertAndMergeInWhateverOrder(t *testing.T) {
	for _, a := range goodSketches() {
		for _, b := range goodSketches() {
			for _, v := range []int{0, 1, 5, 4849, impl.MaxValue - 1, impl.MaxValue} {
				first, _ := impl.Insert(a, v)
				behind, ok := impl.Insert(merged(t, a, b), v)
				if !ok || !exactly(merged(t, first, b), behind) || !exactly(merged(t, b, first), behind) {
					t.Fatalf("%d put to %v ahead of %v and behind it comes to different ones", v, a, b)
				}
			}
		}
	}
}

func TestSketchSame(t *testing.T) {
	var all []impl.Sketch
	all = append(all, goodSketches()...)
	for _, s := range badSketches() {
		all = append(all, s)
	}
	for _, a := range all {
		if !impl.SketchSame(a, twin(a)) {
			t.Errorf("SketchSame(%v, a twin of it) = false", a)
		}
		for _, b := range all {
			if got, want := impl.SketchSame(a, b), exactly(a, b); got != want {
				t.Errorf("SketchSame(%v, %v) = %v, want %v", a, b, got, want)
			}
		}
	}
}

func TestSketchSameTellsEachNumber(t *testing.T) {
	long := impl.Sketch{Count: 1, Hist: make([]int, 9), Regs: make([]int, 9), Rows: [][]int{make([]int, 5), make([]int, 5), make([]int, 5)}}
	for _, s := range []impl.Sketch{heap([]int{5, 100, 5}), heap(nil), fullSketch(), long} {
		turns := []func(*impl.Sketch){
			func(s *impl.Sketch) { s.Count++ },
			func(s *impl.Sketch) { s.Sum++ },
			func(s *impl.Sketch) { s.Min++ },
			func(s *impl.Sketch) { s.Max++ },
		}
		for k := range s.Hist {
			turns = append(turns, func(s *impl.Sketch) { s.Hist[k]++ })
		}
		for k := range s.Regs {
			turns = append(turns, func(s *impl.Sketch) { s.Regs[k]++ })
		}
		for k := range s.Rows {
			for c := range s.Rows[k] {
				turns = append(turns, func(s *impl.Sketch) { s.Rows[k][c]++ })
			}
		}
		for _, turn := range turns {
			other := changed(s, turn)
			if impl.SketchSame(s, other) || impl.SketchSame(other, s) {
				t.Errorf("SketchSame(%v, %v) = true", s, other)
			}
		}
	}
}

func TestSketchSameOfEmptyLists(t *testing.T) {
	for _, x := range []struct {
		a, b impl.Sketch
		want bool
	}{
		{impl.Sketch{}, impl.Sketch{}, true},
		{impl.Sketch{}, impl.Sketch{Hist: []int{}, Regs: []int{}, Rows: [][]int{}}, true},
		{impl.Sketch{Rows: [][]int{nil, {}}}, impl.Sketch{Rows: [][]int{{}, nil}}, true},
		{impl.Sketch{Hist: make([]int, 0, 8)}, impl.Sketch{}, true},
		{impl.Sketch{}, impl.SketchNew(), false},
		{impl.Sketch{}, impl.Sketch{Rows: [][]int{nil}}, false},
		{impl.Sketch{}, impl.Sketch{Hist: []int{0}}, false},
		{impl.Sketch{}, impl.Sketch{Regs: []int{0}}, false},
		{impl.Sketch{Hist: []int{1}}, impl.Sketch{Regs: []int{1}}, false},
	} {
		if impl.SketchSame(x.a, x.b) != x.want || impl.SketchSame(x.b, x.a) != x.want {
			t.Errorf("SketchSame(%v, %v), or the other way, is not %v", x.a, x.b, x.want)
		}
	}
}

const spareMark = -77

// roomy gives every list of a sketch spare room with a mark in it.
func roomy(s impl.Sketch) impl.Sketch {
	s.Hist, s.Regs = spare(s.Hist), spare(s.Regs)
	rows := make([][]int, len(s.Rows), len(s.Rows)+2)
	for k := range s.Rows {
		rows[k] = spare(s.Rows[k])
	}
	rows = append(rows, []int{spareMark})[:len(s.Rows)]
	s.Rows = rows
	return s
}

func spare(list []int) []int {
	out := make([]int, len(list), len(list)+3)
	copy(out, list)
	return append(out, spareMark, spareMark, spareMark)[:len(list)]
}

// untouched: the sketch is as it was, and so is the room behind its lists.
func untouched(s, was impl.Sketch) bool {
	if !exactly(s, was) {
		return false
	}
	behind := s.Rows[:len(s.Rows)+1][len(s.Rows)]
	if len(behind) != 1 || behind[0] != spareMark || s.Rows[:cap(s.Rows)][cap(s.Rows)-1] != nil {
		return false
	}
	for _, list := range append([][]int{s.Hist, s.Regs}, s.Rows...) {
		if slices.ContainsFunc(list[len(list):cap(list)], func(n int) bool { return n != spareMark }) {
			return false
		}
	}
	return true
}

// scribble writes over all lists of an answer, and the room behind them, one after the other, and tells whether each of them was its own.
func scribble(s impl.Sketch) bool {
	lists := append([][]int{s.Hist, s.Regs}, s.Rows...)
	for k := range lists {
		lists[k] = lists[k][:cap(lists[k])]
		for i := range lists[k] {
			lists[k][i] = 1000 + k
		}
	}
	for k, list := range lists {
		if slices.ContainsFunc(list, func(n int) bool { return n != 1000+k }) {
			return false
		}
	}
	rows := s.Rows[:cap(s.Rows)]
	for k := range rows {
		rows[k] = nil
	}
	return true
}

func TestSketchesShareNothing(t *testing.T) {
	all := goodSketches()
	for _, s := range badSketches() {
		all = append(all, s)
	}
	for _, s := range all {
		for _, v := range []int{5, -1, impl.MaxValue + 1} {
			given := roomy(s)
			got, _ := impl.Insert(given, v)
			if !untouched(given, s) {
				t.Errorf("Insert(%v, %d) wrote into it", s, v)
			}
			if !scribble(got) || !untouched(given, s) {
				t.Errorf("Insert(%v, %d): the answer shares memory", s, v)
			}
		}
		given, other := roomy(s), roomy(heap([]int{3, 9}))
		answers := []impl.Sketch{}
		for _, x := range [][2]impl.Sketch{{given, other}, {other, given}, {given, given}, {given, impl.SketchNew()}} {
			got, _ := impl.Merge(x[0], x[1])
			answers = append(answers, got)
		}
		impl.SketchOk(given)
		impl.SketchSame(given, other)
		for _, got := range answers {
			if !scribble(got) || !untouched(given, s) || !untouched(other, heap([]int{3, 9})) {
				t.Errorf("Merge of %v: the answer shares memory, or it was written into", s)
			}
		}
	}
}

func TestSketchedLeavesItsList(t *testing.T) {
	list := spare([]int{9, -1, 5})
	got := impl.Sketched(list)
	if !scribble(got) || !slices.Equal(list[:cap(list)], []int{9, -1, 5, spareMark, spareMark, spareMark}) {
		t.Errorf("Sketched wrote into its list: %v", list[:cap(list)])
	}
	if !scribble(impl.SketchNew()) {
		t.Error("lists of SketchNew share memory")
	}
	a, b := impl.Sketched(nil), impl.Sketched(nil)
	scribble(a)
	if !exactly(b, heap(nil)) {
		t.Error("two answers share memory")
	}
}
