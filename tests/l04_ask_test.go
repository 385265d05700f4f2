package tests

import (
	"math"
	"slices"
	"strings"
	"testing"

	"loop.example/g00491/impl"
)

// askedLists: lists of numbers in range whose numbers come once, more often, and in every bucket.
func askedLists() [][]int {
	return [][]int{
		nil,
		{0},
		{0, 0, 0},
		{5, 100, 5, 9},
		{1000000},
		{1000000, 999999, 262144, 262143},
		{0, 1, 7, 8, 63, 64, 511, 512, 4095, 4096, 32767, 32768, 262143, 262144, 1000000},
		{4849, 4849, 4849, 3, 3, 9},
		slices.Repeat([]int{7, 8, 1000000}, 40),
		counting(1000),
		inRangeOnly(longList(900)),
	}
}

func counting(n int) []int {
	var list []int
	for k := range n {
		list = append(list, k)
	}
	return list
}

func inRangeOnly(list []int) []int {
	return slices.DeleteFunc(list, func(v int) bool { return v < 0 || v > 1000000 })
}

// came tells how often each number of a list came.
func came(list []int) map[int]int {
	count := map[int]int{}
	for _, v := range list {
		count[v]++
	}
	return count
}

// histogram is a summary of which only the buckets are of interest.
func histogram(hist ...int) impl.Sketch {
	s := heap([]int{5})
	s.Hist = append(hist, make([]int, 8-len(hist))...)
	return s
}

// bucketEnds: the least and the greatest value of a bucket, written down.
func bucketEnds(k int) (int, int) {
	ends := [8][2]int{{0, 0}, {1, 7}, {8, 63}, {64, 511}, {512, 4095}, {4096, 32767}, {32768, 262143}, {262144, 1000000}}
	return ends[k][0], ends[k][1]
}

func TestOftenIsNeverBelowWhatCame(t *testing.T) {
	for _, list := range askedLists() {
		s, count := heap(list), came(list)
		for _, v := range append(slices.Clone(list), edgeInts()...) {
			got := impl.Often(s, v)
			if got < count[v] || got > len(list) {
				t.Errorf("Often(%v, %d) = %d, it came %d times of %d", s, v, got, count[v], len(list))
			}
			if v >= 0 && v <= 1000000 && got != min(s.Rows[0][mixed(v)%4], s.Rows[1][mixed(v+1)%4]) {
				t.Errorf("Often(%v, %d) = %d", s, v, got)
			}
		}
	}
}

func TestOften(t *testing.T) {
	// 5 stands at 3 and 2, 0 at 1 and 2, 100 at 0 and 3, MaxValue at 2 and 2.
	s := heap([]int{5})
	s.Rows = [][]int{{10, 20, 30, 40}, {50, 60, 35, 5}}
	for _, x := range []struct{ v, want int }{
		{5, 35}, {0, 20}, {100, 5}, {1000000, 30},
		{-1, 0}, {1000001, 0}, {math.MinInt, 0}, {math.MaxInt, 0}, {1000000000, 0},
	} {
		if got := impl.Often(s, x.v); got != x.want {
			t.Errorf("Often(%v, %d) = %d, want %d", s, x.v, got, x.want)
		}
	}
	// What shares a place in one row is told apart by the other one; what shares none did not come.
	only := heap([]int{5, 5, 100})
	for _, x := range []struct{ v, want int }{{5, 2}, {100, 1}, {0, 0}, {1000000, 0}} {
		if got := impl.Often(only, x.v); got != x.want {
			t.Errorf("Often(%v, %d) = %d, want %d", only, x.v, got, x.want)
		}
	}
	for _, v := range []int{0, 5, 999999, 1000000} {
		if got := impl.Often(fullSketch(), v); got != impl.Top {
			t.Errorf("Often(fullSketch(), %d) = %d", v, got)
		}
	}
}

func TestDifferentIsNeverAboveWhatCame(t *testing.T) {
	for _, list := range askedLists() {
		s, count := heap(list), came(list)
		got := impl.Different(s)
		if got > len(count) || len(list) > 0 && got < 1 {
			t.Errorf("Different(%v) = %d, there are %d", s, got, len(count))
		}
		places := map[int]int{}
		for v := range count {
			places[mixed(v)%8]++
		}
		if got != len(places) {
			t.Errorf("Different(%v) = %d, want %d", s, got, len(places))
		}
	}
}

func TestDifferent(t *testing.T) {
	for _, x := range []struct {
		regs []int
		want int
	}{
		{[]int{0, 0, 0, 0, 0, 0, 0, 0}, 0},
		{[]int{1, 0, 0, 0, 0, 0, 0, 0}, 1},
		{[]int{0, 0, 0, 0, 0, 0, 0, 1}, 1},
		{[]int{17, 0, 3, 0, 0, 0, 0, 17}, 3},
		{[]int{1, 2, 3, 4, 5, 6, 7, 17}, 8},
	} {
		s := changed(heap([]int{5}), func(s *impl.Sketch) { s.Regs = x.regs })
		if got := impl.Different(s); got != x.want {
			t.Errorf("Different(%v) = %d, want %d", s, got, x.want)
		}
	}
}

// firstOf: the first number of a list of which p of a thousand are not above it.
func firstOf(sorted []int, p int) int {
	for k, v := range sorted {
		if (k+1)*1000 >= p*len(sorted) {
			return v
		}
	}
	return -1
}

func TestQuantileOfKnownNumbers(t *testing.T) {
	for _, list := range askedLists()[1:] {
		s, sorted := heap(list), slices.Sorted(slices.Values(list))
		for p := 1; p <= 1000; p++ {
			v := firstOf(sorted, p)
			lo, hi := bucketEnds(thirds(v))
			if gotLo, gotHi := impl.Quantile(s, p); gotLo != lo || gotHi != hi {
				t.Fatalf("Quantile(%v, %d) = %d, %d, want those of %d: %d, %d", s, p, gotLo, gotHi, v, lo, hi)
			}
		}
	}
}

func TestQuantile(t *testing.T) {
	for _, x := range []struct {
		s              impl.Sketch
		p, bucketOrNot int
	}{
		{histogram(1, 1), 1, 0}, {histogram(1, 1), 500, 0}, {histogram(1, 1), 501, 1}, {histogram(1, 1), 1000, 1},
		{histogram(1, 1), 0, -1}, {histogram(1, 1), 1001, -1}, {histogram(1, 1), -1, -1},
		{histogram(1, 1), math.MinInt, -1}, {histogram(1, 1), math.MaxInt, -1}, {histogram(1, 1), math.MaxInt / 2, -1},
		// where the first bucket that has something is not that of 0, so that 0 and 0 is no bucket's
		{histogram(0, 2), 0, -1}, {histogram(0, 2), 1, 1}, {histogram(0, 2), 1000, 1}, {histogram(0, 2), 1001, -1}, {histogram(0, 2), -1, -1},
		{histogram(0, 2), math.MinInt, -1}, {histogram(0, 2), math.MaxInt, -1}, {histogram(0, 2), math.MaxInt/2 + 1, -1},
		// empty buckets ahead, between and behind are none
		{histogram(0, 0, 3), 1, 2}, {histogram(0, 0, 3), 1000, 2},
		{histogram(1, 0, 0, 1), 500, 0}, {histogram(1, 0, 0, 1), 501, 3},
		{histogram(999, 0, 1), 999, 0}, {histogram(999, 0, 1), 1000, 2}, {histogram(1, 999), 1, 0}, {histogram(1, 999), 2, 1},
		{histogram(1, 1000), 1, 1}, {histogram(2, 1, 1, 1, 1, 1, 1, 1), 222, 0}, {histogram(2, 1, 1, 1, 1, 1, 1, 1), 223, 1},
		// the last bucket
		{histogram(0, 0, 0, 0, 0, 0, 0, 1), 1, 7}, {histogram(0, 0, 0, 0, 0, 0, 0, 1), 1000, 7},
		{histogram(0, 0, 0, 0, 0, 0, 1, 1), 500, 6}, {histogram(0, 0, 0, 0, 0, 0, 1, 1), 501, 7},
		// together they are above Top, and are not held down to it
		{histogram(impl.Top, impl.Top), 500, 0}, {histogram(impl.Top, impl.Top), 501, 1},
		{fullSketch(), 1, 0}, {fullSketch(), 125, 0}, {fullSketch(), 126, 1}, {fullSketch(), 875, 6}, {fullSketch(), 876, 7}, {fullSketch(), 1000, 7},
		{histogram(1, impl.Top), 1, 1}, {histogram(impl.Top, 1), 999, 0}, {histogram(impl.Top, 1), 1000, 1},
		// numbers, yet none in a bucket
		{histogram(), 1, -1}, {histogram(), 500, -1}, {histogram(), 999, -1}, {histogram(), 1000, -1},
		// none
		{heap(nil), 1, -1}, {heap(nil), 500, -1}, {heap(nil), 1000, -1}, {heap(nil), 0, -1},
	} {
		lo, hi := 0, 0
		if x.bucketOrNot >= 0 {
			lo, hi = bucketEnds(x.bucketOrNot)
		}
		if gotLo, gotHi := impl.Quantile(x.s, x.p); gotLo != lo || gotHi != hi {
			t.Errorf("Quantile(%v, %d) = %d, %d, want %d, %d", x.s, x.p, gotLo, gotHi, lo, hi)
		}
	}
}

// TestQuantileCountsTheBuckets: Count is told apart from what the buckets hold together.
func TestQuantileCountsTheBuckets(t *testing.T) {
	for _, count := range []int{1, 2, 100, impl.Top} {
		s := histogram(3, 1)
		s.Count = count
		for p, hi := range map[int]int{1: 0, 750: 0, 751: 7, 1000: 7} {
			if _, got := impl.Quantile(s, p); got != hi {
				t.Errorf("Quantile(%v, %d) ends at %d, want %d", s, p, got, hi)
			}
		}
	}
}

func TestMean(t *testing.T) {
	for _, list := range askedLists() {
		want := 0
		for _, v := range list {
			want += v
		}
		if want > impl.Top {
			continue
		}
		if got := impl.Mean(heap(list)); got != want/max(len(list), 1) {
			t.Errorf("Mean(%v) = %d, want %d by %d", heap(list), got, want, len(list))
		}
	}
	for _, x := range []struct{ sum, count, want int }{
		{0, 1, 0}, {1, 2, 0}, {119, 4, 29}, {120, 4, 30}, {impl.Top, 1, impl.Top}, {impl.Top, impl.Top, 1}, {impl.Top - 1, impl.Top, 0}, {1, impl.Top, 0},
	} {
		s := changed(heap([]int{5}), func(s *impl.Sketch) { s.Sum, s.Count = x.sum, x.count })
		if got := impl.Mean(s); got != x.want {
			t.Errorf("Mean(%v) = %d, want %d", s, got, x.want)
		}
	}
}

func TestSketchText(t *testing.T) {
	for _, x := range []struct {
		s    impl.Sketch
		want string
	}{
		{heap(nil), "0 0 0 0"},
		{heap([]int{0}), "1 0 0 0"},
		{heap([]int{5, 100, 5, 9}), "4 119 5 100"},
		{heap([]int{1000000}), "1 1000000 1000000 1000000"},
		{nearlyFull(), "999999999 999999997 7 999999"},
		{fullSketch(), "1000000000 1000000000 0 1000000"},
	} {
		if got := impl.SketchText(x.s); got != x.want {
			t.Errorf("SketchText(%v) = %q, want %q", x.s, got, x.want)
		}
	}
}

func TestAskedOfNoNumbers(t *testing.T) {
	none := impl.SketchNew()
	for _, v := range []int{-1, 0, 5, 1000000, 1000001} {
		if got := impl.Often(none, v); got != 0 {
			t.Errorf("Often(SketchNew(), %d) = %d", v, got)
		}
	}
	if impl.Different(none) != 0 || impl.Mean(none) != 0 || impl.SketchText(none) != "0 0 0 0" {
		t.Errorf("no numbers tell %d, %d, %q", impl.Different(none), impl.Mean(none), impl.SketchText(none))
	}
}

// TestAskedOfWrongSketches: also where the part that is asked for is as it should be.
func TestAskedOfWrongSketches(t *testing.T) {
	for name, s := range badSketches() {
		for _, v := range []int{math.MinInt, -1, 0, 5, 100, 1000000, 1000001, math.MaxInt} {
			if got := impl.Often(s, v); got != 0 {
				t.Errorf("%s: Often(%v, %d) = %d, want 0", name, s, v, got)
			}
		}
		for _, p := range []int{math.MinInt, 0, 1, 500, 999, 1000, 1001, math.MaxInt} {
			if lo, hi := impl.Quantile(s, p); lo != 0 || hi != 0 {
				t.Errorf("%s: Quantile(%v, %d) = %d, %d, want 0, 0", name, s, p, lo, hi)
			}
		}
		if got := impl.Different(s); got != 0 {
			t.Errorf("%s: Different(%v) = %d, want 0", name, s, got)
		}
		if got := impl.Mean(s); got != 0 {
			t.Errorf("%s: Mean(%v) = %d, want 0", name, s, got)
		}
		if got := impl.SketchText(s); got != "?" {
			t.Errorf("%s: SketchText(%v) = %q, want ?", name, s, got)
		}
	}
}

// TestAskedOfMergedParts: what is told of a whole is not less (not more) than its parts bear.
func TestAskedOfMergedParts(t *testing.T) {
	list := inRangeOnly(longList(60))
	for cut := range len(list) + 1 {
		one, two := heap(list[:cut]), heap(list[cut:])
		both := merged(t, one, two)
		if got, least := impl.Different(both), max(impl.Different(one), impl.Different(two)); got < least || got > len(came(list)) {
			t.Errorf("cut at %d: Different = %d, the greater of the parts' %d", cut, got, least)
		}
		for v, n := range came(list) {
			if got := impl.Often(both, v); got < n || got < impl.Often(one, v)+impl.Often(two, v) {
				t.Errorf("cut at %d: Often %d = %d, it came %d times", cut, v, got, n)
			}
		}
	}
}

func TestAskingLeavesTheSketch(t *testing.T) {
	all := goodSketches()
	for _, s := range badSketches() {
		all = append(all, s)
	}
	for _, s := range all {
		given := roomy(s)
		for _, n := range []int{-1, 0, 1, 5, 500, 1000, 1001, 1000000, 1000001} {
			impl.Often(given, n)
			impl.Quantile(given, n)
		}
		impl.Different(given)
		impl.Mean(given)
		text := strings.Clone(impl.SketchText(given))
		if !untouched(given, s) || impl.SketchText(given) != text {
			t.Errorf("asking wrote into %v", s)
		}
	}
}
