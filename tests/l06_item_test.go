package tests

import (
	"math"
	"slices"
	"testing"

	"loop.example/g00491/impl"
)

// exactEntry holds two entries against each other without the program's own EntrySame.
func exactEntry(a, b impl.Entry) bool {
	return a.Key == b.Key && a.Window == b.Window && slices.Equal(a.Ids, b.Ids) && exactly(a.Sketch, b.Sketch)
}

// twinEntry copies an entry of any shape.
func twinEntry(e impl.Entry) impl.Entry {
	e.Ids, e.Sketch = slices.Clone(e.Ids), twin(e.Sketch)
	return e
}

// changedEntry is a twin with one thing turned.
func changedEntry(e impl.Entry, turn func(*impl.Entry)) impl.Entry {
	e = twinEntry(e)
	turn(&e)
	return e
}

// changedItem is a copy with one thing turned.
func changedItem(x impl.Item, turn func(*impl.Item)) impl.Item {
	x.Sketch = twin(x.Sketch)
	turn(&x)
	return x
}

func someItem() impl.Item {
	return impl.Item{Seq: 7, Class: 1, Key: 2, Window: 3, Sketch: heap([]int{5, 100, 5})}
}

func someEntry() impl.Entry {
	return impl.Entry{Key: 2, Window: 3, Ids: spanList(7, 7, 107, 109), Sketch: heap([]int{5, 100, 5})}
}

// atPlace is an entry of key 2 and window 3.
func atPlace(ids []impl.Span, s impl.Sketch) impl.Entry {
	return impl.Entry{Key: 2, Window: 3, Ids: ids, Sketch: s}
}

// badItems: each is off in one thing alone.
func badItems() map[string]impl.Item {
	bad := map[string]impl.Item{"zero": {}, "a Seq alone": {Seq: 1}}
	off := func(most int) []int {
		return []int{math.MinInt, -100, -1, most + 1, most + 2, 1000, math.MaxInt}
	}
	for _, n := range append(off(60), 0) {
		bad["Seq "+impl.Digits(n)] = changedItem(someItem(), func(x *impl.Item) { x.Seq = n })
	}
	for _, n := range off(1) {
		bad["Class "+impl.Digits(n)] = changedItem(someItem(), func(x *impl.Item) { x.Class = n })
	}
	for _, n := range off(4) {
		bad["Key "+impl.Digits(n)] = changedItem(someItem(), func(x *impl.Item) { x.Key = n })
	}
	for _, n := range off(20) {
		bad["Window "+impl.Digits(n)] = changedItem(someItem(), func(x *impl.Item) { x.Window = n })
	}
	for name, s := range badSketches() {
		bad["Sketch: "+name] = changedItem(someItem(), func(x *impl.Item) { x.Sketch = s })
	}
	return bad
}

// badEntries: each is off in one thing alone.
func badEntries() map[string]impl.Entry {
	bad := map[string]impl.Entry{"zero": {}, "Ids alone": {Ids: spanList(1, 1)}}
	for _, n := range []int{math.MinInt, -100, -1, 5, 6, math.MaxInt} {
		bad["Key "+impl.Digits(n)] = changedEntry(someEntry(), func(e *impl.Entry) { e.Key = n })
	}
	for _, n := range []int{math.MinInt, -100, -1, 21, 22, math.MaxInt} {
		bad["Window "+impl.Digits(n)] = changedEntry(someEntry(), func(e *impl.Entry) { e.Window = n })
	}
	bad["Ids nil"] = changedEntry(someEntry(), func(e *impl.Entry) { e.Ids = nil })
	bad["Ids empty"] = changedEntry(someEntry(), func(e *impl.Entry) { e.Ids = []impl.Span{} })
	for k, s := range badSets() {
		bad["Ids: wrong set "+impl.Digits(k)] = changedEntry(someEntry(), func(e *impl.Entry) { e.Ids = s })
	}
	for name, s := range badSketches() {
		bad["Sketch: "+name] = changedEntry(someEntry(), func(e *impl.Entry) { e.Sketch = s })
	}
	return bad
}

// goodEntries: of one place, no number in two of them.
func goodEntries() []impl.Entry {
	var all []impl.Entry
	for k, s := range goodSketches() {
		// Some touch the one ahead of them, some leave a gap, some have two spans.
		ids := spanList(10*k, 10*k+8+k%2)
		if k%3 == 1 {
			ids = spanList(10*k, 10*k+2, 10*k+5, 10*k+9)
		}
		all = append(all, atPlace(ids, s))
	}
	return append(all, atPlace(spanList(9999, 9999), heap([]int{1})), atPlace(spanList(260, 260, 9990, 9998), heap([]int{2})))
}

func TestItemConstants(t *testing.T) {
	if impl.MaxKey != 4 || impl.MaxWindow != 20 || impl.Classes != 2 || impl.MaxAgents != 3 || impl.MaxSeq != 60 {
		t.Errorf("MaxKey, MaxWindow, Classes, MaxAgents, MaxSeq = %d, %d, %d, %d, %d", impl.MaxKey, impl.MaxWindow, impl.Classes, impl.MaxAgents, impl.MaxSeq)
	}
}

func TestIdOf(t *testing.T) {
	for _, x := range []struct{ agent, seq, want int }{
		{0, 1, 1}, {0, 60, 60}, {1, 1, 101}, {1, 7, 107}, {1, 60, 160}, {2, 1, 201}, {2, 60, 260},
		{-1, 1, -1}, {-1, 60, -1}, {3, 1, -1}, {3, 60, -1},
		{0, 0, -1}, {0, 61, -1}, {2, 0, -1}, {2, 61, -1}, {0, -1, -1}, {1, -40, -1}, {0, 107, -1},
		{-1, 0, -1}, {-1, 101, -1}, {3, 61, -1}, {3, 0, -1},
		{math.MinInt, 1, -1}, {math.MaxInt, 1, -1}, {0, math.MinInt, -1}, {0, math.MaxInt, -1}, {math.MaxInt, math.MaxInt, -1}, {math.MinInt, math.MinInt, -1},
	} {
		if got := impl.IdOf(x.agent, x.seq); got != x.want {
			t.Errorf("IdOf(%d, %d) = %d, want %d", x.agent, x.seq, got, x.want)
		}
	}
	told := map[int]int{}
	for agent := -3; agent <= 6; agent++ {
		for seq := -130; seq <= 130; seq++ {
			got := impl.IdOf(agent, seq)
			if agent < 0 || agent > 2 || seq < 1 || seq > 60 {
				if got != -1 {
					t.Errorf("IdOf(%d, %d) = %d, want -1", agent, seq, got)
				}
				continue
			}
			told[got]++
			if got != 100*agent+seq || told[got] > 1 {
				t.Errorf("IdOf(%d, %d) = %d, for the %d. time", agent, seq, got, told[got])
			}
		}
	}
}

func TestItemOk(t *testing.T) {
	for _, s := range goodSketches() {
		for _, seq := range []int{1, 2, 59, 60} {
			for _, class := range []int{0, 1} {
				for key := 0; key <= 4; key++ {
					for _, window := range []int{0, 1, 4, 5, 19, 20} {
						x := impl.Item{Seq: seq, Class: class, Key: key, Window: window, Sketch: s}
						if !impl.ItemOk(x) {
							t.Errorf("ItemOk(%v) = false", x)
						}
					}
				}
			}
		}
	}
	for name, x := range badItems() {
		if impl.ItemOk(x) {
			t.Errorf("%s: ItemOk(%v) = true", name, x)
		}
	}
}

func TestItemOkAtTheLimits(t *testing.T) {
	for _, x := range []struct {
		seq, class, key, window int
		want                    bool
	}{
		{0, 0, 0, 0, false}, {1, 0, 0, 0, true}, {60, 0, 0, 0, true}, {61, 0, 0, 0, false}, {-1, 0, 0, 0, false},
		{1, -1, 0, 0, false}, {1, 0, 0, 0, true}, {1, 1, 0, 0, true}, {1, 2, 0, 0, false},
		{1, 0, -1, 0, false}, {1, 0, 4, 0, true}, {1, 0, 5, 0, false}, {1, 0, 20, 0, false},
		{1, 0, 0, -1, false}, {1, 0, 0, 20, true}, {1, 0, 0, 21, false}, {1, 0, 0, 60, false},
		{60, 1, 4, 20, true}, {61, 2, 5, 21, false}, {0, -1, -1, -1, false},
	} {
		item := impl.Item{Seq: x.seq, Class: x.class, Key: x.key, Window: x.window, Sketch: impl.SketchNew()}
		if got := impl.ItemOk(item); got != x.want {
			t.Errorf("ItemOk(%v) = %v", item, got)
		}
	}
}

func TestEntryOk(t *testing.T) {
	for _, s := range goodSketches() {
		for key := 0; key <= 4; key++ {
			for _, window := range []int{0, 1, 4, 5, 19, 20} {
				e := impl.Entry{Key: key, Window: window, Ids: spanList(1, 60), Sketch: s}
				if !impl.EntryOk(e) {
					t.Errorf("EntryOk(%v) = false", e)
				}
			}
		}
	}
	for _, ids := range goodSets() {
		if got := impl.EntryOk(atPlace(ids, heap([]int{5}))); got != (len(ids) > 0) {
			t.Errorf("EntryOk with Ids %v = %v", ids, got)
		}
	}
	for name, e := range badEntries() {
		if impl.EntryOk(e) {
			t.Errorf("%s: EntryOk(%v) = true", name, e)
		}
	}
}

func TestEntryOkAtTheLimits(t *testing.T) {
	for _, x := range []struct {
		key, window int
		ids         []impl.Span
		want        bool
	}{
		{-1, 0, spanList(1, 1), false}, {0, 0, spanList(1, 1), true}, {4, 0, spanList(1, 1), true}, {5, 0, spanList(1, 1), false}, {20, 4, spanList(1, 1), false},
		{0, -1, spanList(1, 1), false}, {0, 20, spanList(1, 1), true}, {0, 21, spanList(1, 1), false}, {4, 20, spanList(1, 1), true}, {5, 21, spanList(1, 1), false},
		// any set of chapter 5, also of numbers that are no IdOf
		{0, 0, spanList(0, 0), true}, {0, 0, spanList(-1, -1), false}, {0, 0, spanList(61, 100), true}, {0, 0, spanList(0, 9999), true}, {0, 0, spanList(0, 10000), false},
		{0, 0, nil, false}, {0, 0, []impl.Span{}, false}, {0, 0, spanList(1, 1, 2, 2), false}, {0, 0, spanList(1, 1, 3, 3), true}, {0, 0, spanList(2, 1), false},
	} {
		e := impl.Entry{Key: x.key, Window: x.window, Ids: x.ids, Sketch: impl.SketchNew()}
		if got := impl.EntryOk(e); got != x.want {
			t.Errorf("EntryOk(%v) = %v", e, got)
		}
	}
}

func TestEntryOf(t *testing.T) {
	for _, s := range goodSketches() {
		for agent := range 3 {
			for _, seq := range []int{1, 2, 7, 59, 60} {
				for _, at := range [][3]int{{0, 0, 0}, {1, 4, 20}, {0, 2, 3}, {1, 3, 2}} {
					x := impl.Item{Seq: seq, Class: at[0], Key: at[1], Window: at[2], Sketch: s}
					id := 100*agent + seq
					want := impl.Entry{Key: at[1], Window: at[2], Ids: spanList(id, id), Sketch: s}
					got, ok := impl.EntryOf(agent, x)
					if !ok || !exactEntry(got, want) || !impl.EntryOk(got) {
						t.Errorf("EntryOf(%d, %v) = %v, %v, want %v", agent, x, got, ok, want)
					}
					if n := impl.IdOf(agent, seq); !impl.SetHas(got.Ids, n) || impl.SetSize(got.Ids) != 1 {
						t.Errorf("EntryOf(%d, %v) has Ids %v, IdOf is %d", agent, x, got.Ids, n)
					}
				}
			}
		}
	}
}

func TestEntryOfRefuses(t *testing.T) {
	for _, agent := range []int{math.MinInt, -100, -1, 3, 4, 100, math.MaxInt} {
		if got, ok := impl.EntryOf(agent, someItem()); ok || !exactEntry(got, impl.Entry{}) {
			t.Errorf("EntryOf(%d, %v) = %v, %v, want zero, false", agent, someItem(), got, ok)
		}
	}
	for name, x := range badItems() {
		for _, agent := range []int{-1, 0, 1, 2, 3} {
			if got, ok := impl.EntryOf(agent, x); ok || !exactEntry(got, impl.Entry{}) {
				t.Errorf("%s: EntryOf(%d, %v) = %v, %v, want zero, false", name, agent, x, got, ok)
			}
		}
	}
}

// TestEntryOfEdges: each number at and beside its limits, all of them together.
func TestEntryOfEdges(t *testing.T) {
	for _, agent := range []int{-1, 0, 2, 3} {
		for _, seq := range []int{0, 1, 60, 61} {
			for _, class := range []int{-1, 0, 1, 2} {
				for _, key := range []int{-1, 0, 4, 5} {
					for _, window := range []int{-1, 0, 20, 21} {
						x := impl.Item{Seq: seq, Class: class, Key: key, Window: window, Sketch: heap([]int{9, 0})}
						item := seq >= 1 && seq <= 60 && class >= 0 && class <= 1 && key >= 0 && key <= 4 && window >= 0 && window <= 20
						want := item && agent >= 0 && agent <= 2
						got, ok := impl.EntryOf(agent, x)
						if impl.ItemOk(x) != item || ok != want || impl.EntryOk(got) != want || !want && !exactEntry(got, impl.Entry{}) {
							t.Errorf("EntryOf(%d, %v) = %v, %v, want %v", agent, x, got, ok, want)
						}
					}
				}
			}
		}
	}
}

func TestEntryAdd(t *testing.T) {
	for _, x := range []struct{ a, b, want impl.Entry }{
		{
			atPlace(spanList(107, 107), heap([]int{5, 9})),
			atPlace(spanList(1, 1), heap([]int{100})),
			atPlace(spanList(1, 1, 107, 107), heap([]int{5, 9, 100})),
		},
		// what touches is one stretch, what stands in a gap fills it
		{
			atPlace(spanList(7, 7), heap([]int{5})),
			atPlace(spanList(8, 8), heap([]int{5})),
			atPlace(spanList(7, 8), heap([]int{5, 5})),
		},
		{
			atPlace(spanList(1, 3, 5, 5, 201, 202), heap([]int{0, 7, 1000000, 3, 3, 3})),
			atPlace(spanList(4, 4, 60, 60, 101, 101), heap([]int{4849, 1, 2})),
			atPlace(spanList(1, 5, 60, 60, 101, 101, 201, 202), heap([]int{0, 7, 1000000, 3, 3, 3, 4849, 1, 2})),
		},
		// one of them without numbers: Min and Max are those of the other
		{
			atPlace(spanList(1, 1), heap(nil)),
			atPlace(spanList(2, 2), heap([]int{9})),
			atPlace(spanList(1, 2), heap([]int{9})),
		},
		{atPlace(spanList(1, 1), heap(nil)), atPlace(spanList(3, 3), heap(nil)), atPlace(spanList(1, 1, 3, 3), heap(nil))},
		{atPlace(spanList(1, 1), fullSketch()), atPlace(spanList(3, 3), fullSketch()), atPlace(spanList(1, 1, 3, 3), fullSketch())},
		// the edges of sets, which go beyond those of IdOf
		{atPlace(spanList(0, 4999), heap([]int{1})), atPlace(spanList(5000, 9999), heap([]int{2})), atPlace(spanList(0, 9999), heap([]int{1, 2}))},
	} {
		for _, pair := range [][2]impl.Entry{{x.a, x.b}, {x.b, x.a}} {
			got, ok := impl.EntryAdd(pair[0], pair[1])
			if !ok || !exactEntry(got, x.want) || !impl.EntryOk(got) {
				t.Errorf("EntryAdd(%v, %v) = %v, %v, want %v", pair[0], pair[1], got, ok, x.want)
			}
		}
	}
}

func TestEntryAddAtAnyPlace(t *testing.T) {
	for key := range 5 {
		for window := range 21 {
			a := impl.Entry{Key: key, Window: window, Ids: spanList(1, 1), Sketch: heap([]int{5})}
			b := impl.Entry{Key: key, Window: window, Ids: spanList(260, 260), Sketch: heap([]int{6})}
			want := impl.Entry{Key: key, Window: window, Ids: spanList(1, 1, 260, 260), Sketch: heap([]int{5, 6})}
			if got, ok := impl.EntryAdd(a, b); !ok || !exactEntry(got, want) {
				t.Errorf("EntryAdd(%v, %v) = %v, %v, want %v", a, b, got, ok, want)
			}
		}
	}
}

// TestEntryAddIsJoinAndMerge holds it against the functions that the chapter names.
func TestEntryAddIsJoinAndMerge(t *testing.T) {
	for i, a := range goodEntries() {
		for j, b := range goodEntries() {
			if i == j {
				continue
			}
			ids, okIds := impl.SetJoin(a.Ids, b.Ids)
			sketch, okSketch := impl.Merge(a.Sketch, b.Sketch)
			got, ok := impl.EntryAdd(a, b)
			if !ok || !okIds || !okSketch || !exactEntry(got, atPlace(ids, sketch)) {
				t.Errorf("EntryAdd(%v, %v) = %v, %v, want %v and %v", a, b, got, ok, ids, sketch)
			}
		}
	}
}

// put is EntryAdd where it must not be refused.
func put(t *testing.T, a, b impl.Entry) impl.Entry {
	t.Helper()
	got, ok := impl.EntryAdd(a, b)
	if !ok || !impl.EntryOk(got) {
		t.Fatalf("EntryAdd(%v, %v) = %v, %v", a, b, got, ok)
	}
	return got
}

func TestEntriesAddedUpInWhateverOrder(t *testing.T) {
	all := goodEntries()
	for i, a := range all {
		for j, b := range all {
			if i == j {
				continue
			}
			if one, other := put(t, a, b), put(t, b, a); !exactEntry(one, other) || !impl.EntrySame(one, other) {
				t.Errorf("%v and %v come to %v, the other way to %v", a, b, one, other)
			}
			for k, c := range all {
				if k != i && k != j {
					checkThreeEntries(t, a, b, c)
				}
			}
		}
	}
}

// checkThreeEntries: three come to the same in all orders, the pair that is added up first on either side.
func checkThreeEntries(t *testing.T, a, b, c impl.Entry) {
	t.Helper()
	want := put(t, put(t, a, b), c)
	for _, x := range [][3]impl.Entry{{a, b, c}, {a, c, b}, {b, a, c}, {b, c, a}, {c, a, b}, {c, b, a}} {
		left := put(t, put(t, x[0], x[1]), x[2])
		right := put(t, x[0], put(t, x[1], x[2]))
		if !exactEntry(left, want) || !exactEntry(right, want) || !impl.EntrySame(left, right) {
			t.Fatalf("%v come to %v from the left, %v from the right, want %v", x, left, right, want)
		}
	}
}

// TestItemsAddedUpInWhateverOrder: what items come to is what all their numbers come to, and none of them is added up twice.
func TestItemsAddedUpInWhateverOrder(t *testing.T) {
	lists := [][]int{{5, 9}, {100}, {}, {0, 1000000, 1000000}, {4849, 7}}
	agents, seqs := []int{1, 0, 2, 1, 1}, []int{7, 1, 60, 8, 60}
	var entries []impl.Entry
	for k, list := range lists {
		x := impl.Item{Seq: seqs[k], Class: k % 2, Key: 4, Window: 20, Sketch: heap(list)}
		e, ok := impl.EntryOf(agents[k], x)
		if !ok {
			t.Fatalf("EntryOf(%d, %v) = %v, false", agents[k], x, e)
		}
		entries = append(entries, e)
	}
	want := impl.Entry{Key: 4, Window: 20, Ids: spanList(1, 1, 107, 108, 160, 160, 260, 260), Sketch: heap(slices.Concat(lists...))}
	for _, order := range orders([]int{0, 1, 2, 3, 4}) {
		sum := entries[order[0]]
		for _, k := range order[1:] {
			sum = put(t, sum, entries[k])
			if again, ok := impl.EntryAdd(sum, entries[k]); ok || !exactEntry(again, impl.Entry{}) {
				t.Fatalf("order %v: entry %d is added up twice: %v, %v", order, k, again, ok)
			}
		}
		if !exactEntry(sum, want) || !impl.EntrySame(sum, want) {
			t.Errorf("order %v comes to %v, want %v", order, sum, want)
		}
	}
}

// refused: neither way do the two add up.
func refused(t *testing.T, name string, a, b impl.Entry) {
	t.Helper()
	for _, pair := range [][2]impl.Entry{{a, b}, {b, a}} {
		if got, ok := impl.EntryAdd(pair[0], pair[1]); ok || !exactEntry(got, impl.Entry{}) {
			t.Errorf("%s: EntryAdd(%v, %v) = %v, %v, want zero, false", name, pair[0], pair[1], got, ok)
		}
	}
}

func TestEntryAddRefusesNumbersInBoth(t *testing.T) {
	for _, e := range goodEntries() {
		refused(t, "itself", e, e)
		refused(t, "a twin", e, twinEntry(e))
		for _, x := range e.Ids {
			for _, n := range []int{x.Lo, x.Hi} {
				refused(t, "one number of it", e, atPlace(spanList(n, n), heap([]int{8})))
			}
		}
	}
	a := atPlace(spanList(3, 5, 107, 109), heap([]int{5}))
	for _, ids := range [][]impl.Span{
		spanList(3, 5), spanList(107, 109), spanList(3, 5, 107, 109), spanList(4, 4), spanList(108, 108), spanList(1, 3), spanList(5, 9), spanList(109, 200),
		spanList(0, 9999), spanList(1, 1, 5, 5, 200, 200), spanList(1, 1, 50, 50, 109, 109), spanList(6, 107), spanList(5, 106),
	} {
		refused(t, "numbers in both", a, atPlace(ids, heap([]int{6})))
		refused(t, "numbers in both, without numbers measured", a, atPlace(ids, heap(nil)))
	}
	for _, ids := range [][]impl.Span{spanList(6, 106), spanList(2, 2), spanList(0, 2, 6, 6, 106, 106, 110, 9999), spanList(50, 50)} {
		put(t, a, atPlace(ids, heap([]int{6})))
	}
}

// TestEntryAddOfAllSmallSets: whether they add up hangs on the numbers in common alone.
func TestEntryAddOfAllSmallSets(t *testing.T) {
	all := smallSets(104, 6)
	for maskA, a := range all {
		for maskB, b := range all {
			want, wantOk := impl.Entry{}, maskA > 0 && maskB > 0 && maskA&maskB == 0
			if wantOk {
				want = atPlace(all[maskA|maskB], heap([]int{5, 6}))
			}
			got, ok := impl.EntryAdd(atPlace(a, heap([]int{5})), atPlace(b, heap([]int{6})))
			if ok != wantOk || !exactEntry(got, want) {
				t.Fatalf("entries of %v and %v come to %v, %v, want %v, %v", a, b, got, ok, want, wantOk)
			}
		}
	}
}

func TestEntryAddRefusesOtherPlaces(t *testing.T) {
	for key := range 5 {
		for window := range 5 {
			a := impl.Entry{Key: 2, Window: 3, Ids: spanList(1, 1), Sketch: heap([]int{5})}
			b := impl.Entry{Key: key, Window: window, Ids: spanList(3, 3), Sketch: heap([]int{6})}
			if key == 2 && window == 3 {
				put(t, a, b)
				continue
			}
			refused(t, "another place", a, b)
		}
	}
	// 21 windows further on is not the next key.
	refused(t, "Key 0, Window 20 and Key 1, Window 0",
		impl.Entry{Key: 0, Window: 20, Ids: spanList(1, 1), Sketch: heap([]int{5})}, impl.Entry{Key: 1, Window: 0, Ids: spanList(3, 3), Sketch: heap([]int{5})})
}

func TestEntryAddRefusesWrongEntries(t *testing.T) {
	others := []impl.Entry{{}, someEntry(), atPlace(spanList(700, 701), heap(nil)), atPlace(spanList(7000, 7000), fullSketch())}
	for name, bad := range badEntries() {
		refused(t, name, bad, bad)
		for _, other := range others {
			refused(t, name, bad, other)
			// of the wrong one's own key and window, so that the place is no reason
			refused(t, name, bad, changedEntry(other, func(e *impl.Entry) { e.Key, e.Window = bad.Key, bad.Window }))
		}
	}
}

// sizeOf counts as the document's words have it.
func sizeOf(e impl.Entry) int {
	size := 4 + 2*len(e.Ids)
	for _, n := range slices.Concat(e.Sketch.Hist, e.Sketch.Regs, e.Sketch.Rows[0], e.Sketch.Rows[1]) {
		if n > 0 {
			size++
		}
	}
	return size
}

func TestEntrySize(t *testing.T) {
	sketch := func(hist, regs, row0, row1 []int) impl.Sketch {
		return impl.Sketch{Count: 1, Sum: 9, Min: 9, Max: 9, Hist: hist, Regs: regs, Rows: [][]int{row0, row1}}
	}
	eight, four := make([]int, 8), make([]int, 4)
	for _, x := range []struct {
		ids  []impl.Span
		s    impl.Sketch
		want int
	}{
		{spanList(1, 1), heap(nil), 6}, {spanList(1, 60), heap(nil), 6}, {spanList(1, 1, 3, 3), heap(nil), 8}, {spanList(1, 1, 3, 3, 5, 9, 107, 107), heap(nil), 12},
		// a bucket, a register, two columns
		{spanList(1, 1), heap([]int{100}), 10}, {spanList(1, 1), heap([]int{0}), 10}, {spanList(1, 1), heap([]int{100, 100, 100}), 10},
		{spanList(1, 1, 107, 107), heap([]int{5, 100, 5}), 16},
		// each list alone; Count, Sum, Min and Max take nothing of their own
		{spanList(1, 1), sketch(eight, eight, four, four), 6},
		{spanList(1, 1), sketch([]int{1, 0, 0, 2, 0, 0, 0, 1000000000}, eight, four, four), 9},
		{spanList(1, 1), sketch(eight, []int{17, 1, 0, 0, 0, 0, 0, 2}, four, four), 9},
		{spanList(1, 1), sketch(eight, eight, []int{5, 0, 0, 1}, four), 8},
		{spanList(1, 1), sketch(eight, eight, four, []int{0, 5, 7, 1}), 9},
		{spanList(1, 1, 5, 7, 9, 9), sketch([]int{1, 1, 0, 0, 0, 0, 0, 0}, []int{0, 0, 0, 1, 1, 1, 0, 0}, []int{0, 0, 0, 4}, []int{1, 1, 1, 1}), 20},
		{spanList(1, 1), fullSketch(), 30}, {spanList(0, 0, 2, 2, 9999, 9999), fullSketch(), 34},
	} {
		if got := impl.EntrySize(atPlace(x.ids, x.s)); got != x.want {
			t.Errorf("EntrySize with Ids %v and %v = %d, want %d", x.ids, x.s, got, x.want)
		}
	}
	for _, ids := range goodSets() {
		for _, s := range goodSketches() {
			e := atPlace(ids, s)
			if got := impl.EntrySize(e); len(ids) > 0 && got != sizeOf(e) || len(ids) == 0 && got != 0 {
				t.Errorf("EntrySize(%v) = %d", e, got)
			}
		}
	}
	for name, e := range badEntries() {
		if got := impl.EntrySize(e); got != 0 {
			t.Errorf("%s: EntrySize(%v) = %d, want 0", name, e, got)
		}
	}
}

func TestEntrySame(t *testing.T) {
	all := append(goodEntries(), someEntry(), impl.Entry{Key: 3, Window: 2, Ids: spanList(7, 7, 107, 109), Sketch: heap([]int{5, 100, 5})})
	for _, e := range badEntries() {
		all = append(all, e)
	}
	for _, a := range all {
		if !impl.EntrySame(a, twinEntry(a)) {
			t.Errorf("EntrySame(%v, a twin of it) = false", a)
		}
		for _, b := range all {
			if got, want := impl.EntrySame(a, b), exactEntry(a, b); got != want {
				t.Errorf("EntrySame(%v, %v) = %v, want %v", a, b, got, want)
			}
		}
	}
}

func TestEntrySameTellsEachNumber(t *testing.T) {
	for _, e := range []impl.Entry{someEntry(), atPlace(spanList(1, 1), heap(nil)), {Key: -3, Window: 99, Ids: spanList(5, 3, 3, 5), Sketch: fullSketch()}} {
		turns := []func(*impl.Entry){
			func(e *impl.Entry) { e.Key++ },
			func(e *impl.Entry) { e.Window++ },
			func(e *impl.Entry) { e.Key, e.Window = e.Window, e.Key },
			func(e *impl.Entry) { e.Ids = append(e.Ids, impl.Span{}) },
			func(e *impl.Entry) { e.Ids = e.Ids[1:] },
			func(e *impl.Entry) { e.Ids = nil },
			func(e *impl.Entry) { e.Sketch = impl.Sketch{} },
			func(e *impl.Entry) { e.Sketch.Count++ },
			func(e *impl.Entry) { e.Sketch.Sum++ },
			func(e *impl.Entry) { e.Sketch.Min++ },
			func(e *impl.Entry) { e.Sketch.Max++ },
			func(e *impl.Entry) { e.Sketch.Hist[7]++ },
			func(e *impl.Entry) { e.Sketch.Regs[7]++ },
			func(e *impl.Entry) { e.Sketch.Rows[0][3]++ },
			func(e *impl.Entry) { e.Sketch.Rows[1][3]++ },
		}
		for k := range e.Ids {
			turns = append(turns, func(e *impl.Entry) { e.Ids[k].Lo-- }, func(e *impl.Entry) { e.Ids[k].Hi++ })
		}
		for k, turn := range turns {
			other := changedEntry(e, turn)
			if impl.EntrySame(e, other) || impl.EntrySame(other, e) {
				t.Errorf("turn %d: EntrySame(%v, %v) = true", k, e, other)
			}
		}
	}
}

func TestEntrySameOfEmptyLists(t *testing.T) {
	if !impl.EntrySame(impl.Entry{}, impl.Entry{Ids: []impl.Span{}, Sketch: impl.Sketch{Hist: []int{}, Regs: []int{}, Rows: [][]int{}}}) {
		t.Error("an empty list and nil are not the same")
	}
	if !impl.EntrySame(atPlace(nil, heap(nil)), atPlace(make([]impl.Span, 0, 4), impl.SketchNew())) {
		t.Error("empty Ids and nil are not the same")
	}
	if impl.EntrySame(impl.Entry{}, impl.Entry{Sketch: impl.SketchNew()}) || impl.EntrySame(impl.Entry{}, impl.Entry{Ids: make([]impl.Span, 1)}) {
		t.Error("noughts and nothing are the same")
	}
}

// roomyEntry gives every list of an entry spare room with a mark in it.
func roomyEntry(e impl.Entry) impl.Entry {
	e.Ids, e.Sketch = spareSpans(e.Ids), roomy(e.Sketch)
	return e
}

// entryAsGiven: the entry is as it was, and so is the room behind its lists.
func entryAsGiven(e, was impl.Entry) bool {
	return e.Key == was.Key && e.Window == was.Window && asGiven(e.Ids, was.Ids) && untouched(e.Sketch, was.Sketch)
}

// scribbleEntry writes over all lists of an answer, and tells whether those of the Sketch were each its own.
func scribbleEntry(e impl.Entry) bool {
	overwrite(e.Ids)
	return scribble(e.Sketch)
}

func TestEntryOfSharesNothing(t *testing.T) {
	items := badItems()
	for k, s := range goodSketches() {
		items["good "+impl.Digits(k)] = changedItem(someItem(), func(x *impl.Item) { x.Sketch = s })
	}
	for name, x := range items {
		for _, agent := range []int{-1, 0, 2, 3} {
			given := x
			given.Sketch = roomy(x.Sketch)
			impl.ItemOk(given)
			got, ok := impl.EntryOf(agent, given)
			again, _ := impl.EntryOf(agent, given)
			was := twinEntry(again)
			if !untouched(given.Sketch, x.Sketch) {
				t.Errorf("%s: EntryOf(%d, ..) wrote into it", name, agent)
			}
			if ok && !scribbleEntry(got) || !untouched(given.Sketch, x.Sketch) || !exactEntry(again, was) {
				t.Errorf("%s: EntryOf(%d, ..): the answer shares memory", name, agent)
			}
		}
	}
}

func TestEntryAddSharesNothing(t *testing.T) {
	all := goodEntries()
	for _, e := range badEntries() {
		all = append(all, e)
	}
	others := []impl.Entry{someEntry(), atPlace(spanList(700, 701), heap([]int{3, 9})), atPlace(spanList(9, 9, 19, 19), heap(nil))}
	for _, x := range all {
		for _, y := range append(others, x) {
			a, b := roomyEntry(x), roomyEntry(y)
			var answers []impl.Entry
			for _, pair := range [][2]impl.Entry{{a, b}, {b, a}, {a, a}} {
				if got, ok := impl.EntryAdd(pair[0], pair[1]); ok {
					answers = append(answers, got)
				}
			}
			if !entryAsGiven(a, x) || !entryAsGiven(b, y) {
				t.Errorf("EntryAdd of %v and %v wrote into one", x, y)
			}
			for k, got := range answers {
				rest := slices.Clone(answers[k+1:])
				for i := range rest {
					rest[i] = twinEntry(rest[i])
				}
				own := scribbleEntry(got)
				if !own || !entryAsGiven(a, x) || !entryAsGiven(b, y) || !slices.EqualFunc(answers[k+1:], rest, exactEntry) {
					t.Errorf("EntryAdd of %v and %v: the answer shares memory", x, y)
				}
			}
		}
	}
}

func TestAskingLeavesTheEntry(t *testing.T) {
	all := append(goodEntries(), someEntry())
	for _, e := range badEntries() {
		all = append(all, e)
	}
	for _, e := range all {
		given, other := roomyEntry(e), roomyEntry(someEntry())
		impl.EntryOk(given)
		impl.EntrySize(given)
		impl.EntrySame(given, other)
		impl.EntrySame(other, given)
		impl.EntrySame(given, given)
		if !entryAsGiven(given, e) || !entryAsGiven(other, someEntry()) {
			t.Errorf("asking wrote into %v", e)
		}
	}
}
