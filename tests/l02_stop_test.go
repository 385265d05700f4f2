package tests

import (
	"math"
	"strconv"
	"strings"
	"testing"

	"loop.example/g00491/impl"
)

// edgeInts: numbers within the chapter's bounds, at them, beside them and far outside.
func edgeInts() []int {
	return []int{
		math.MinInt, math.MinInt + 1, -impl.Top - 1, -impl.Top, -impl.MaxValue, -2, -1,
		0, 1, 2, 3, 7, 8, 4848, 4849, 4850, 65535, 65536, 499999999, 500000000, 500000001,
		impl.MaxValue - 1, impl.MaxValue, impl.MaxValue + 1,
		impl.Top - 1, impl.Top, impl.Top + 1, math.MaxInt32, math.MaxInt32 + 1,
		math.MaxInt - impl.Top, math.MaxInt - 1, math.MaxInt,
	}
}

// stopped: the number as the document counts it, told apart case by case.
func stopped(n int, most int) int {
	switch {
	case n < 0:
		return 0
	case n > most:
		return most
	}
	return n
}

func TestStopConstants(t *testing.T) {
	if impl.MaxValue != 1000000 || impl.Top != 1000000000 || impl.Buckets != 8 {
		t.Errorf("MaxValue, Top, Buckets = %d, %d, %d", impl.MaxValue, impl.Top, impl.Buckets)
	}
}

func TestAdd(t *testing.T) {
	for _, x := range []struct{ a, b, want int }{
		{0, 0, 0},
		{0, 1, 1},
		{2, 3, 5},
		{1000000, 1000000, 2000000},
		{1000001, 0, 1000001},
		{999999999, 0, 999999999},
		{999999998, 1, 999999999},
		{999999999, 1, 1000000000},
		{999999999, 2, 1000000000},
		{500000000, 499999999, 999999999},
		{500000000, 500000000, 1000000000},
		{500000001, 500000000, 1000000000},
		{1000000000, 0, 1000000000},
		{1000000000, 1, 1000000000},
		{1000000000, 1000000000, 1000000000},
		{1000000001, 0, 1000000000},
		{-1, 0, 0},
		{-1, -1, 0},
		{-4, 3, 3},
		{-1, 1000000000, 1000000000},
		{-1, 1000000001, 1000000000},
		{-1000000000, 1000000001, 1000000000},
		{math.MinInt, math.MinInt, 0},
		{math.MinInt, 7, 7},
		{math.MinInt, math.MaxInt, 1000000000},
		{math.MaxInt, 0, 1000000000},
		{math.MaxInt, -1, 1000000000},
		{math.MaxInt, 1, 1000000000},
		{math.MaxInt, math.MaxInt, 1000000000},
	} {
		if got := impl.Add(x.a, x.b); got != x.want {
			t.Errorf("Add(%d, %d) = %d, want %d", x.a, x.b, got, x.want)
		}
		if got := impl.Add(x.b, x.a); got != x.want {
			t.Errorf("Add(%d, %d) = %d, want %d", x.b, x.a, got, x.want)
		}
	}
}

func TestAddInWhateverOrder(t *testing.T) {
	for _, a := range edgeInts() {
		for _, b := range edgeInts() {
			want := stopped(stopped(a, impl.Top)+stopped(b, impl.Top), impl.Top)
			if got := impl.Add(a, b); got != want || got != impl.Add(b, a) {
				t.Errorf("Add(%d, %d) = %d, the other way %d, want %d", a, b, got, impl.Add(b, a), want)
			}
			for _, c := range edgeInts() {
				checkThree(t, a, b, c)
			}
		}
	}
}

// checkThree: the sum of three is the same in all orders, the pair that is added first on either side.
func checkThree(t *testing.T, a, b, c int) {
	t.Helper()
	want := stopped(stopped(a, impl.Top)+stopped(b, impl.Top)+stopped(c, impl.Top), impl.Top)
	for _, x := range [][3]int{{a, b, c}, {a, c, b}, {b, a, c}, {b, c, a}, {c, a, b}, {c, b, a}} {
		left := impl.Add(impl.Add(x[0], x[1]), x[2])
		right := impl.Add(x[0], impl.Add(x[1], x[2]))
		if left != want || right != want {
			t.Fatalf("sum of %v = %d from the left, %d from the right, want %d", x, left, right, want)
		}
	}
}

func TestAddManyInWhateverOrder(t *testing.T) {
	list := []int{3, -9, 400000000, 0, 299999990, math.MinInt, 299999999, 1, 7}
	for from := range list {
		forth, back := 0, 0
		for k := range list {
			forth = impl.Add(forth, list[(from+k)%len(list)])
			back = impl.Add(list[(from+len(list)-k)%len(list)], back)
		}
		if forth != 1000000000 || back != 1000000000 {
			t.Errorf("from %d on: %d forth, %d back, want 1000000000", from, forth, back)
		}
	}
}

func TestMix(t *testing.T) {
	for n, want := range map[int]int{
		math.MinInt:       12297,
		-1000000:          12297,
		-1:                12297,
		0:                 12297, // 12345 ^ 48
		1:                 52926, // 52848 ^ 206
		2:                 27851,
		3:                 2772,
		7:                 33593,
		8:                 8656,
		255:               51659,
		256:               26462,
		4849:              0,
		999999:            19855,
		1000000:           60178,
		1000001:           60178,
		impl.Top - 1:      60178,
		impl.Top:          60178,
		impl.Top + 1:      60178,
		math.MaxInt32 + 1: 60178,
		math.MaxInt:       60178,
	} {
		if got := impl.Mix(n); got != want {
			t.Errorf("Mix(%d) = %d, want %d", n, got, want)
		}
	}
}

func TestMixOfAllValues(t *testing.T) {
	// left goes on by steps, so that the answer is not worked out in the program's own way.
	left := 12345
	for n := 0; n <= impl.MaxValue; n++ {
		high, low := left/256, left%256
		if got, want := impl.Mix(n), high*256+(low^high); got != want {
			t.Fatalf("Mix(%d) = %d, want %d", n, got, want)
		}
		left += 40503
		if left >= 65536 {
			left -= 65536
		}
	}
}

func TestBucketOf(t *testing.T) {
	for v, want := range map[int]int{
		math.MinInt:       0,
		-impl.Top:         0,
		-8:                0,
		-1:                0,
		0:                 0,
		1:                 1,
		7:                 1,
		8:                 2,
		63:                2,
		64:                3,
		511:               3,
		512:               4,
		4095:              4,
		4096:              5,
		32767:             5,
		32768:             6,
		262143:            6,
		262144:            7,
		999999:            7,
		1000000:           7,
		1000001:           7,
		2097151:           7,
		2097152:           7, // of itself it would be of an eighth bucket
		impl.Top - 1:      7,
		impl.Top:          7,
		impl.Top + 1:      7,
		math.MaxInt32 + 1: 7,
		math.MaxInt:       7,
	} {
		if got := impl.BucketOf(v); got != want {
			t.Errorf("BucketOf(%d) = %d, want %d", v, got, want)
		}
	}
}

func TestBucketOfAllValues(t *testing.T) {
	for v := 1; v <= impl.MaxValue; v++ {
		want := (len(strconv.FormatInt(int64(v), 2)) + 2) / 3
		if got := impl.BucketOf(v); got != want {
			t.Fatalf("BucketOf(%d) = %d, want %d", v, got, want)
		}
	}
}

func TestRankOf(t *testing.T) {
	for n, want := range map[int]int{
		math.MinInt:  1,
		-4849:        1,
		-1:           1,
		0:            1,
		1:            2,
		3:            3,
		9:            4,
		8:            5,
		19:           6,
		59:           7,
		294:          8,
		640:          9,
		263:          10,
		325:          11,
		1017:         12,
		4033:         13,
		10065:        14,
		46257:        15,
		22129:        16,
		4849:         17,
		70385:        17,
		987889:       17,
		999999:       1,
		1000000:      2,
		1000001:      2,
		1053425:      2, // Mix would be 0, were it not above MaxValue
		impl.Top - 1: 2,
		impl.Top:     2,
		impl.Top + 1: 2,
		math.MaxInt:  2,
	} {
		if got := impl.RankOf(n); got != want {
			t.Errorf("RankOf(%d) = %d, want %d", n, got, want)
		}
	}
}

func TestRankOfAllValues(t *testing.T) {
	noughts := 0
	for n := 0; n <= impl.MaxValue; n++ {
		want := 17
		if mixed := impl.Mix(n); mixed != 0 {
			written := strconv.FormatInt(int64(mixed), 2)
			want = len(written) - len(strings.TrimRight(written, "0")) + 1
		} else {
			noughts++
		}
		if got := impl.RankOf(n); got != want {
			t.Fatalf("RankOf(%d) = %d, want %d", n, got, want)
		}
	}
	if noughts != 16 {
		t.Errorf("%d numbers have a Mix of 0, want 16", noughts)
	}
}

func TestLow(t *testing.T) {
	for k, want := range []int{0, 1, 8, 64, 512, 4096, 32768, 262144} {
		if got := impl.Low(k); got != want {
			t.Errorf("Low(%d) = %d, want %d", k, got, want)
		}
	}
	for _, k := range []int{
		math.MinInt, math.MinInt + 1, -1000000, -64, -8, -2, -1, impl.Buckets, impl.Buckets + 1, 21, 22, 23, 63, 64,
		impl.MaxValue, impl.Top, 1 << 32, math.MaxInt - 1, math.MaxInt,
	} {
		if got := impl.Low(k); got != -1 {
			t.Errorf("Low(%d) = %d, want -1", k, got)
		}
	}
}

func TestLowIsTheLeastOfItsBucket(t *testing.T) {
	least := map[int]int{}
	for v := 0; v <= impl.MaxValue+1; v++ {
		k := impl.BucketOf(v)
		if _, ok := least[k]; !ok {
			least[k] = v
		}
	}
	if len(least) != impl.Buckets {
		t.Errorf("%d buckets are used, want %d", len(least), impl.Buckets)
	}
	for k, v := range least {
		if got := impl.Low(k); got != v {
			t.Errorf("Low(%d) = %d, want %d", k, got, v)
		}
	}
}
