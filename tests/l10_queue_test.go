package tests

import (
	"slices"
	"testing"

	"loop.example/g00491/impl"
)

// measured is an entry by what it was made of: the numbers of its items, and what these measured.
type measured struct {
	key, window int
	ids, list   []int
}

func (m measured) entry() impl.Entry {
	return impl.Entry{Key: m.key, Window: m.window, Ids: stretches(m.ids), Sketch: heap(m.list)}
}

func (m measured) and(o measured) measured {
	m.ids, m.list = slices.Concat(m.ids, o.ids), slices.Concat(m.list, o.list)
	return m
}

func (m measured) isAt(o measured) bool { return m.key == o.key && m.window == o.window }

func rowOf(list []measured) impl.Row {
	var r impl.Row
	for _, m := range list {
		r.List = append(r.List, m.entry())
	}
	return r
}

// pushing is RowPush as the document's words have it, of a row that is RowOk and an entry that is EntryOk.
func pushing(row []measured, m measured, join bool) ([]measured, bool) {
	for _, o := range row {
		if slices.ContainsFunc(m.ids, func(n int) bool { return slices.Contains(o.ids, n) }) {
			return row, false
		}
	}
	if k := slices.IndexFunc(row, m.isAt); join && k >= 0 {
		row = slices.Clone(row)
		row[k] = row[k].and(m)
		return row, true
	}
	if len(row) == 24 {
		return row, false
	}
	return append(slices.Clone(row), m), true
}

// summing is RowSum as the document's words have it.
func summing(row []measured) []impl.Entry {
	var sums []impl.Entry
	for key := range 5 {
		for window := range 21 {
			all, found := measured{key: key, window: window}, false
			for _, m := range row {
				if m.isAt(all) {
					all, found = all.and(m), true
				}
			}
			if found {
				sums = append(sums, all.entry())
			}
		}
	}
	return sums
}

// joining is RowIds likewise.
func joining(row []measured) []impl.Span {
	var ids []int
	for _, m := range row {
		ids = append(ids, m.ids...)
	}
	return stretches(ids)
}

// exactRow holds two rows against each other without the program's own RowSame.
func exactRow(a, b impl.Row) bool { return slices.EqualFunc(a.List, b.List, exactEntry) }

func twinRow(r impl.Row) impl.Row {
	r.List = slices.Clone(r.List)
	for k := range r.List {
		r.List[k] = twinEntry(r.List[k])
	}
	return r
}

// changedRow is a twin with one thing turned.
func changedRow(r impl.Row, turn func(*impl.Row)) impl.Row {
	r = twinRow(r)
	turn(&r)
	return r
}

// someMeasured: three places, two entries of the one, whose Ids touch those of others and lie in another order than they stand.
func someMeasured() []measured {
	return []measured{
		{2, 3, []int{5, 6, 9}, []int{5, 100, 5}},
		{1, 7, []int{107}, []int{9}},
		{2, 3, []int{3, 7, 260}, nil},
		{2, 7, []int{4, 8}, []int{0, 1000000}},
		{1, 3, []int{1, 108}, []int{4849, 7}},
	}
}

// longMeasured: n entries of one number each, of all keys and windows; from 105 on places come again.
func longMeasured(n int) []measured {
	var list []measured
	for k := range n {
		list = append(list, measured{k % 5, k % 21, []int{k*7%24 + k/24*24 + 200}, []int{k, 3 * k}})
	}
	return list
}

// onePlace: n entries of one place.
func onePlace(n int) []measured {
	list := longMeasured(n)
	for k := range list {
		list[k].key, list[k].window = 4, 20
	}
	return list
}

// goodMeasured: rows with no entry, one, several, one below MaxRow and as many.
func goodMeasured() [][]measured {
	return [][]measured{
		nil, {}, someMeasured()[:1], someMeasured()[2:3], someMeasured()[:2], someMeasured(),
		onePlace(2), onePlace(3), onePlace(23), onePlace(24), longMeasured(2), longMeasured(23), longMeasured(24),
		{{0, 0, []int{0}, nil}}, {{4, 20, []int{9999}, []int{0}}},
		{{0, 0, []int{9999}, nil}, {0, 0, []int{0}, nil}}, {{0, 20, []int{1}, []int{1}}, {1, 0, []int{2}, []int{2}}, {0, 0, []int{4}, nil}},
	}
}

// goodRows: such as are RowOk.
func goodRows() []impl.Row {
	all := []impl.Row{{}, {List: []impl.Entry{}}, {List: goodEntries()}, {List: goodEntries()[:1]}}
	for _, list := range goodMeasured() {
		all = append(all, rowOf(list))
	}
	all = append(all, impl.Row{List: []impl.Entry{atPlace(spanList(0, 9999), fullSketch())}})
	return append(all, impl.Row{List: []impl.Entry{atPlace(spanList(5000, 9999), fullSketch()), atPlace(spanList(0, 4999), fullSketch())}})
}

// badRows: each is off in one thing alone.
func badRows() map[string]impl.Row {
	bad := map[string]impl.Row{"an entry that is zero": {List: []impl.Entry{{}}}}
	for _, n := range []int{25, 26, 48, 100} {
		bad["of places, with entries: "+impl.Digits(n)] = rowOf(longMeasured(n))
		bad["of one place, with entries: "+impl.Digits(n)] = rowOf(onePlace(n))
	}
	for name, e := range badEntries() {
		bad["alone: "+name] = impl.Row{List: []impl.Entry{e}}
		for where, k := range map[string]int{"at the front: ": 0, "in the middle: ": 1, "at the end: ": 4} {
			// badEntries are off from Ids 7 and 107 to 109; here they are apart from the others, if they are not what is off.
			r := rowOf([]measured{{2, 3, []int{5}, []int{1}}, {1, 3, []int{201}, []int{2}}, {2, 7, []int{203}, nil}, {2, 3, []int{9}, []int{3}}})
			bad[where+name] = impl.Row{List: slices.Insert(r.List, k, e)}
		}
	}
	for name, r := range sharingRows() {
		bad[name] = r
	}
	return bad
}

// sharingRows: two entries have a number in common, next to each other, the first and the last, and others; of one place or not.
func sharingRows() map[string]impl.Row {
	bad := map[string]impl.Row{}
	for where, pair := range map[string][2]int{"first and second": {0, 1}, "two in the middle": {2, 3}, "the last two": {3, 4}, "first and last": {0, 4}, "first and third": {0, 2}} {
		for name, ids := range map[string][2][]impl.Span{
			"one number, the same":     {spanList(50, 50), spanList(50, 50)},
			"where one ends":           {spanList(50, 55), spanList(55, 60)},
			"one within the other":     {spanList(50, 60), spanList(53, 54)},
			"in the last span":         {spanList(50, 51, 60, 61, 70, 70), spanList(30, 31, 40, 41, 70, 72)},
			"first span in last":       {spanList(50, 51, 60, 61), spanList(40, 41, 43, 50)},
			"number 0":                 {spanList(0, 0), spanList(0, 0, 30, 30)},
			"number 9999":              {spanList(30, 30, 9999, 9999), spanList(9990, 9999)},
			"a span over a gap":        {spanList(50, 50, 52, 52), spanList(49, 53)},
			"all spans":                {spanList(50, 50, 52, 52, 54, 54), spanList(50, 50, 52, 52, 54, 54)},
			"one of many in the other": {spanList(50, 50, 52, 52, 54, 54), spanList(51, 51, 53, 54)},
		} {
			r := rowOf([]measured{{2, 3, []int{15}, []int{1}}, {1, 3, []int{201}, []int{2}}, {2, 3, []int{16}, []int{5}}, {2, 7, []int{203}, nil}, {2, 3, []int{19}, []int{3}}})
			r.List[pair[0]].Ids, r.List[pair[1]].Ids = ids[0], ids[1]
			bad[where+", "+name] = r
			same := twinRow(r)
			for k := range same.List {
				same.List[k].Key, same.List[k].Window = 0, 20
			}
			bad[where+", "+name+", of one place"] = same
		}
	}
	full := rowOf(longMeasured(24))
	full.List[23].Ids = spanList(100, 100, 200, 200)
	bad["MaxRow entries, the first and the last"] = full
	return bad
}

// rowsOfAllSorts: good ones and wrong ones.
func rowsOfAllSorts() []impl.Row {
	all := goodRows()
	for _, r := range badRows() {
		all = append(all, r)
	}
	return all
}

// took: the row takes the entry, which it must, and is what was wanted.
func took(t *testing.T, name string, row []measured, m measured, join bool, want []measured) {
	t.Helper()
	got, ok := impl.RowPush(rowOf(row), m.entry(), join)
	if !ok || !exactRow(got, rowOf(want)) || !impl.RowOk(got) {
		t.Errorf("%s: RowPush(%v, %v, %v) = %v, %v, want %v", name, row, m, join, got, ok, want)
	}
}

// unpushed: the row refuses the entry, joined and not, and stays as it was.
func unpushed(t *testing.T, name string, r impl.Row, e impl.Entry) {
	t.Helper()
	for _, join := range []bool{false, true} {
		if got, ok := impl.RowPush(r, e, join); ok || !exactRow(got, r) {
			t.Errorf("%s: RowPush(%v, %v, %v) = %v, %v, want as it was, false", name, r, e, join, got, ok)
		}
	}
}

func TestRowConstants(t *testing.T) {
	if impl.MaxRow != 24 {
		t.Errorf("MaxRow = %d", impl.MaxRow)
	}
}

func TestRowOk(t *testing.T) {
	for _, r := range goodRows() {
		if !impl.RowOk(r) {
			t.Errorf("RowOk(%v) = false", r)
		}
	}
	for name, r := range badRows() {
		if impl.RowOk(r) {
			t.Errorf("%s: RowOk(%v) = true", name, r)
		}
	}
}

func TestRowOkAtTheLimits(t *testing.T) {
	for n := range 60 {
		for _, list := range [][]measured{longMeasured(n), onePlace(n)} {
			if got := impl.RowOk(rowOf(list)); got != (n <= 24) {
				t.Errorf("RowOk with %d entries = %v", n, got)
			}
		}
	}
}

// TestRowOkOfAllSmallSets: three entries make a row just where each has a number, and no two have one in common.
func TestRowOkOfAllSmallSets(t *testing.T) {
	all := smallSets(104, 4)
	for a, idsA := range all {
		for b, idsB := range all {
			for c, idsC := range all {
				r := impl.Row{List: []impl.Entry{atPlace(idsA, heap([]int{5})), atPlace(idsB, heap(nil)), atPlace(idsC, heap([]int{6}))}}
				r.List[1].Key = (a + b + c) % 5
				want := a > 0 && b > 0 && c > 0 && a&b == 0 && a&c == 0 && b&c == 0
				if got := impl.RowOk(r); got != want {
					t.Fatalf("RowOk of Ids %v, %v, %v = %v", idsA, idsB, idsC, got)
				}
			}
		}
	}
}

func TestRowPush(t *testing.T) {
	one, five := measured{2, 3, []int{11}, []int{8, 70}}, someMeasured()
	joinedAt := func(k int, m measured) []measured {
		list := slices.Clone(five)
		list[k] = list[k].and(m)
		return list
	}
	for _, join := range []bool{false, true} {
		took(t, "into none", nil, one, join, []measured{one})
		took(t, "behind one of another place", five[1:2], one, join, []measured{five[1], one})
		for _, at := range [][2]int{{3, 2}, {2, 4}, {2, 20}, {3, 3}, {0, 0}, {4, 20}, {0, 3}, {3, 7}} {
			m := measured{at[0], at[1], []int{11}, []int{8}}
			took(t, "of a place that is not in it", five, m, join, append(slices.Clone(five), m))
		}
	}
	took(t, "behind one of its place", five[:1], one, false, []measured{five[0], one})
	took(t, "with one of its place", five[:1], one, true, []measured{five[0].and(one)})
	took(t, "behind all", five, one, false, append(slices.Clone(five), one))
	took(t, "the first of two of its place", five, one, true, joinedAt(0, one))
	for k, m := range five[1:] {
		if k+1 == 2 {
			continue
		}
		more := measured{m.key, m.window, []int{10, 250}, []int{3}}
		took(t, "joined in its place", five, more, true, joinedAt(k+1, more))
	}
	// Ids that close gaps, and one without numbers measured
	took(t, "gaps closed", five, measured{2, 7, []int{2, 106}, nil}, true, joinedAt(3, measured{2, 7, []int{2, 106}, nil}))
	took(t, "the least and the greatest number", five, measured{1, 3, []int{0, 9999}, []int{0}}, true, joinedAt(4, measured{1, 3, []int{0, 9999}, []int{0}}))
}

// TestTheFirstOneIsJoined: of several entries of one place that stand in a row, wherever they stand, joined again and again.
func TestTheFirstOneIsJoined(t *testing.T) {
	for first := range 5 {
		for second := first + 1; second < 6; second++ {
			row := longMeasured(6)
			for k := range row {
				row[k].window = 5
			}
			row[5].key = 1
			row[first].key, row[first].window = 3, 20
			row[second].key, row[second].window = 3, 20
			for n := range 4 {
				m := measured{3, 20, []int{400 + 2*n}, []int{n}}
				want := slices.Clone(row)
				want[first] = want[first].and(m)
				took(t, "again", row, m, true, want)
				row = want
			}
		}
	}
	// all of one place: the first of them takes all, the others stay
	row := onePlace(24)
	for n := range 10 {
		m := measured{4, 20, []int{10 + n}, []int{n * n}}
		want := slices.Clone(row)
		want[0] = want[0].and(m)
		took(t, "all of one place", row, m, true, want)
		row = want
	}
}

// TestRowPushOfAllSorts holds it against words of its own.
func TestRowPushOfAllSorts(t *testing.T) {
	more := append(longMeasured(26), someMeasured()...)
	more = append(more, measured{2, 3, []int{7000, 7002}, []int{8, 70}}, measured{4, 20, []int{0, 1, 2, 9999}, nil}, measured{0, 0, []int{500}, []int{3}})
	for _, row := range goodMeasured() {
		for _, m := range more {
			for _, join := range []bool{false, true} {
				want, wantOk := pushing(row, m, join)
				got, ok := impl.RowPush(rowOf(row), m.entry(), join)
				if ok != wantOk || !exactRow(got, rowOf(want)) || !impl.RowOk(got) {
					t.Fatalf("RowPush(%v, %v, %v) = %v, %v, want %v, %v", row, m, join, got, ok, want, wantOk)
				}
			}
		}
	}
}

func TestRowPushAtMaxRow(t *testing.T) {
	for n := range 24 {
		for _, row := range [][]measured{longMeasured(n), onePlace(n)} {
			m := measured{3, 20, []int{1}, []int{9}}
			for _, join := range []bool{false, true} {
				took(t, "room for one more", row, m, join, append(slices.Clone(row), m))
			}
		}
	}
	full := longMeasured(24)
	for key := range 5 {
		for window := range 21 {
			m := measured{key, window, []int{1, 5}, []int{9}}
			if got, ok := impl.RowPush(rowOf(full), m.entry(), false); ok || !exactRow(got, rowOf(full)) {
				t.Errorf("a full row takes %v: %v", m, got)
			}
			if k := slices.IndexFunc(full, m.isAt); k >= 0 {
				want := slices.Clone(full)
				want[k] = want[k].and(m)
				took(t, "a full row", full, m, true, want)
			} else {
				unpushed(t, "a full row", rowOf(full), m.entry())
			}
		}
	}
	for _, n := range []int{25, 26, 100} {
		// joined it would be no longer, and is refused all the same
		unpushed(t, "a row too long", rowOf(onePlace(n)), measured{4, 20, []int{1}, []int{9}}.entry())
		unpushed(t, "a row too long", rowOf(longMeasured(n)), measured{0, 1, []int{1}, []int{9}}.entry())
	}
}

// TestRowPushRefusesIdsThere: whichever entry has the number, of the same place or another, and whichever would be joined.
func TestRowPushRefusesIdsThere(t *testing.T) {
	for _, row := range goodMeasured() {
		for _, m := range row {
			for _, n := range m.ids {
				for _, at := range append(slices.Clone(row), measured{key: 3, window: 18}) {
					unpushed(t, "a number of it", rowOf(row), measured{at.key, at.window, []int{n}, []int{8}}.entry())
					unpushed(t, "a number of it and others", rowOf(row), measured{at.key, at.window, []int{600, n, 601, 700}, nil}.entry())
				}
			}
		}
	}
	for _, r := range goodRows() {
		for _, e := range r.List {
			unpushed(t, "an entry of it", r, e)
			unpushed(t, "all numbers there are", r, changedEntry(e, func(e *impl.Entry) { e.Ids = spanList(0, 9999) }))
			unpushed(t, "of another place", r, changedEntry(e, func(e *impl.Entry) { e.Key, e.Window = 3, 18 }))
		}
	}
}

func TestRowPushRefusesWrongEntries(t *testing.T) {
	for name, e := range badEntries() {
		for _, list := range goodMeasured() {
			unpushed(t, name, rowOf(list), e)
		}
		unpushed(t, name+", of the place of one", rowOf([]measured{{2, 3, []int{5}, []int{8}}, {1, 1, []int{300}, nil}, {2, 3, []int{301}, nil}}), e)
	}
}

func TestRowPushIntoWrongRows(t *testing.T) {
	for name, r := range badRows() {
		for _, e := range []impl.Entry{{}, atPlace(spanList(9990, 9990), heap([]int{7})), measured{0, 20, []int{9990}, nil}.entry(), measured{3, 18, []int{9990}, []int{7}}.entry()} {
			unpushed(t, name, r, e)
		}
		// of the place of each entry, so that the wrong one would be joined, too
		for _, x := range r.List[:min(5, len(r.List))] {
			unpushed(t, name, r, impl.Entry{Key: x.Key, Window: x.Window, Ids: spanList(9990, 9990), Sketch: heap([]int{7})})
		}
	}
}

// unpopped: the row gives nothing, and stays as it was.
func unpopped(t *testing.T, name string, r impl.Row) {
	t.Helper()
	if e, got, ok := impl.RowPop(r); ok || !exactEntry(e, impl.Entry{}) || !exactRow(got, r) {
		t.Errorf("%s: RowPop(%v) = %v, %v, %v, want zero, as it was, false", name, r, e, got, ok)
	}
}

func TestRowPop(t *testing.T) {
	for _, r := range goodRows() {
		was := r
		for k := range was.List {
			e, rest, ok := impl.RowPop(r)
			if !ok || !exactEntry(e, was.List[k]) || !exactRow(rest, impl.Row{List: was.List[k+1:]}) || !impl.RowOk(rest) {
				t.Fatalf("entry %d of %v: RowPop(%v) = %v, %v, %v", k, was, r, e, rest, ok)
			}
			r = rest
		}
		unpopped(t, "nothing is left", r)
	}
	unpopped(t, "zero", impl.Row{})
	unpopped(t, "an empty list", impl.Row{List: []impl.Entry{}})
	for name, r := range badRows() {
		unpopped(t, name, r)
	}
}

// TestPoppedAsPushed: what is pushed not joined comes out in the order in which it went in, also where rows are pushed and popped in turn.
func TestPoppedAsPushed(t *testing.T) {
	all := onePlace(60)
	var r impl.Row
	out := 0
	for k, m := range all {
		next, ok := impl.RowPush(r, m.entry(), false)
		if !ok {
			t.Fatalf("RowPush(%v, %v) is refused", r, m)
		}
		if r = next; k%3 == 0 {
			continue
		}
		e, rest, ok := impl.RowPop(r)
		if !ok || !exactEntry(e, all[out].entry()) || !exactRow(rest, rowOf(all[out+1:k+1])) {
			t.Fatalf("behind %d entries RowPop(%v) = %v, %v, %v", k+1, r, e, rest, ok)
		}
		r, out = rest, out+1
	}
	if out != 40 || len(r.List) != 20 {
		t.Errorf("%d came out, %d are left", out, len(r.List))
	}
}

func TestRowIds(t *testing.T) {
	for _, list := range goodMeasured() {
		if got := impl.RowIds(rowOf(list)); !slices.Equal(got, joining(list)) {
			t.Errorf("RowIds(%v) = %v, want %v", list, got, joining(list))
		}
	}
	for _, x := range []struct {
		ids  [][]impl.Span
		want []impl.Span
	}{
		{nil, nil},
		{[][]impl.Span{spanList(4, 4)}, spanList(4, 4)},
		{[][]impl.Span{spanList(4, 4), spanList(5, 5)}, spanList(4, 5)},
		{[][]impl.Span{spanList(5, 9), spanList(4, 4)}, spanList(4, 9)},
		{[][]impl.Span{spanList(5, 9), spanList(3, 3), spanList(1, 1)}, spanList(1, 1, 3, 3, 5, 9)},
		{[][]impl.Span{spanList(200, 260), spanList(101, 160), spanList(1, 60)}, spanList(1, 60, 101, 160, 200, 260)},
		{[][]impl.Span{spanList(1, 1, 3, 3, 5, 5), spanList(2, 2, 6, 6), spanList(4, 4, 8, 8)}, spanList(1, 6, 8, 8)},
		{[][]impl.Span{spanList(5000, 9999), spanList(0, 4999)}, spanList(0, 9999)},
		{[][]impl.Span{spanList(9999, 9999), spanList(0, 0)}, spanList(0, 0, 9999, 9999)},
	} {
		for _, step := range []int{0, 1} {
			var r impl.Row
			for k, ids := range x.ids {
				r.List = append(r.List, impl.Entry{Key: k * step, Window: 3, Ids: ids, Sketch: heap([]int{k})})
			}
			if got := impl.RowIds(r); !slices.Equal(got, x.want) || !impl.SetOk(got) {
				t.Errorf("RowIds(%v) = %v, want %v", r, got, x.want)
			}
		}
	}
	for name, r := range badRows() {
		if got := impl.RowIds(r); len(got) != 0 {
			t.Errorf("%s: RowIds(%v) = %v, want none", name, r, got)
		}
	}
}

// sumsAs: what the row comes to is what was wanted.
func sumsAs(t *testing.T, r impl.Row, want []impl.Entry) {
	t.Helper()
	if got := impl.RowSum(r); !slices.EqualFunc(got, want, exactEntry) {
		t.Fatalf("RowSum(%v) = %v, want %v", r, got, want)
	}
}

func TestRowSum(t *testing.T) {
	sumsAs(t, impl.Row{}, nil)
	sumsAs(t, rowOf(someMeasured()), []impl.Entry{
		{Key: 1, Window: 3, Ids: spanList(1, 1, 108, 108), Sketch: heap([]int{4849, 7})},
		{Key: 1, Window: 7, Ids: spanList(107, 107), Sketch: heap([]int{9})},
		{Key: 2, Window: 3, Ids: spanList(3, 3, 5, 7, 9, 9, 260, 260), Sketch: heap([]int{5, 100, 5})},
		{Key: 2, Window: 7, Ids: spanList(4, 4, 8, 8), Sketch: heap([]int{0, 1000000})},
	})
	sumsAs(t, impl.Row{List: goodEntries()[:7]}, []impl.Entry{addedEntries(t, goodEntries()[:7])})
	for _, list := range goodMeasured() {
		sumsAs(t, rowOf(list), summing(list))
	}
	for name, r := range badRows() {
		if got := impl.RowSum(r); len(got) != 0 {
			t.Errorf("%s: RowSum(%v) = %v, want none", name, r, got)
		}
	}
}

// addedEntries is what entries of one place come to, one by one.
func addedEntries(t *testing.T, list []impl.Entry) impl.Entry {
	t.Helper()
	sum := list[0]
	for _, e := range list[1:] {
		sum = put(t, sum, e)
	}
	return sum
}

// TestRowSumGoesByKeyThenWindow: places in every order, of one key, of one window, and of several.
func TestRowSumGoesByKeyThenWindow(t *testing.T) {
	for _, places := range [][5][2]int{
		{{2, 0}, {2, 1}, {2, 2}, {2, 19}, {2, 20}},
		{{0, 9}, {1, 9}, {2, 9}, {3, 9}, {4, 9}},
		{{0, 20}, {1, 0}, {1, 20}, {2, 0}, {4, 4}},
		{{0, 4}, {1, 3}, {2, 2}, {3, 1}, {4, 0}},
		{{0, 1}, {0, 1}, {1, 0}, {1, 0}, {1, 1}},
		{{3, 11}, {3, 11}, {3, 11}, {3, 11}, {3, 2}},
		{{0, 2}, {0, 10}, {1, 2}, {1, 10}, {0, 2}},
	} {
		for _, order := range orders([]int{0, 1, 2, 3, 4}) {
			var row []measured
			for _, k := range order {
				row = append(row, measured{places[k][0], places[k][1], []int{3 * k, 3*k + 1}, []int{k * k, 100 * k}})
			}
			sumsAs(t, rowOf(row), summing(row))
		}
	}
}

// TestRowSumIsEntryAdd: of each place it is what its entries come to by chapter 6, and no number is lost.
func TestRowSumIsEntryAdd(t *testing.T) {
	for _, r := range goodRows() {
		var ids []int
		for k, e := range impl.RowSum(r) {
			var same []impl.Entry
			for _, x := range r.List {
				if x.Key == e.Key && x.Window == e.Window {
					same = append(same, x)
				}
			}
			if len(same) == 0 || !exactEntry(e, addedEntries(t, same)) {
				t.Errorf("entry %d of RowSum(%v) = %v", k, r, e)
			}
			ids = append(ids, numbersOf(e.Ids)...)
		}
		if !slices.Equal(stretches(ids), impl.RowIds(r)) || len(ids) != len(numbersOf(impl.RowIds(r))) {
			t.Errorf("RowSum(%v) has numbers %v, RowIds %v", r, ids, impl.RowIds(r))
		}
	}
}

// TestWhateverIsJoined: entries pushed in every order, each of them joined or not, come to the same.
func TestWhateverIsJoined(t *testing.T) {
	for _, all := range [][]measured{onePlace(5), someMeasured(), longMeasured(5), {
		{0, 20, []int{7}, []int{1, 2}}, {1, 0, []int{8}, []int{3}}, {0, 20, []int{6, 9}, nil}, {1, 0, []int{1, 260}, []int{0}}, {0, 20, []int{3}, []int{1000000}},
	}} {
		want := summing(all)
		for _, order := range orders([]int{0, 1, 2, 3, 4}) {
			for mask := range 1 << len(all) {
				checkJoined(t, all, order, mask, want)
			}
		}
	}
}

// checkJoined: behind each entry the row is as it must be, and at the end it comes to what was wanted.
func checkJoined(t *testing.T, all []measured, order []int, mask int, want []impl.Entry) {
	t.Helper()
	var r impl.Row
	var row []measured
	for i, k := range order {
		join := mask>>i%2 == 1
		next, ok := impl.RowPush(r, all[k].entry(), join)
		row, _ = pushing(row, all[k], join)
		if !ok || !exactRow(next, rowOf(row)) {
			t.Fatalf("order %v, joined %b: RowPush(%v, %v, %v) = %v, %v, want %v", order, mask, r, all[k], join, next, ok, row)
		}
		r = next
	}
	if got := impl.RowIds(r); !slices.Equal(got, joining(all)) {
		t.Fatalf("order %v, joined %b: RowIds(%v) = %v, want %v", order, mask, r, got, joining(all))
	}
	sumsAs(t, r, want)
}

// TestFullSummariesJoined: what has stopped at Top comes to the same, too, whatever is joined.
func TestFullSummariesJoined(t *testing.T) {
	entries := []impl.Entry{
		atPlace(spanList(1, 1), fullSketch()), atPlace(spanList(2, 2), nearlyFull()), atPlace(spanList(3, 3), heap([]int{5, 9})), atPlace(spanList(5, 5), heap(nil)),
	}
	want := []impl.Entry{addedEntries(t, entries)}
	for _, order := range orders([]int{0, 1, 2, 3}) {
		for mask := range 16 {
			var r impl.Row
			for i, k := range order {
				r, _ = impl.RowPush(r, entries[k], mask>>i%2 == 1)
			}
			sumsAs(t, r, want)
		}
	}
}

// TestRowsThroughALongMix: pushes, joined or not, of numbers that are there or not, and pops, against words of its own.
func TestRowsThroughALongMix(t *testing.T) {
	told := map[string]int{}
	for start := range 60 {
		seed := uint32(start*7919 + 1)
		draw := func(n int) int {
			seed = seed*1664525 + 1013904223
			return int(seed>>8) % n
		}
		var r impl.Row
		var row []measured
		for step := range 150 {
			if draw(8) == 0 {
				e, rest, ok := impl.RowPop(r)
				if told["pop"]++; ok != (len(row) > 0) || ok && !exactEntry(e, row[0].entry()) {
					t.Fatalf("step %d of %d: RowPop(%v) = %v, %v", step, start, r, e, ok)
				}
				r, row = rest, row[min(1, len(row)):]
			} else {
				m, join := measured{draw(3), draw(4 + start), []int{draw(400), 400 + draw(400)}, []int{draw(1000), draw(1000000)}}, draw(3) > start%3
				m.window %= 21
				want, wantOk := pushing(row, m, join)
				next, ok := impl.RowPush(r, m.entry(), join)
				if ok != wantOk {
					t.Fatalf("step %d of %d: RowPush(%v, %v, %v) = %v, %v, want %v, %v", step, start, row, m, join, next, ok, want, wantOk)
				}
				if !ok && len(row) == 24 {
					told["full"]++
				} else if !ok {
					told["there"]++
				} else if len(want) == len(row) {
					told["joined"]++
				}
				r, row = next, want
			}
			if !exactRow(r, rowOf(row)) || !impl.RowOk(r) || !slices.Equal(impl.RowIds(r), joining(row)) {
				t.Fatalf("step %d of %d: %v, want %v", step, start, r, row)
			}
			sumsAs(t, r, summing(row))
		}
	}
	for _, what := range []string{"pop", "full", "there", "joined"} {
		if told[what] < 20 {
			t.Errorf("%s came %d times", what, told[what])
		}
	}
}

func TestRowSame(t *testing.T) {
	all := goodRows()
	for _, r := range sharingRows() {
		all = append(all, r)
	}
	for _, e := range badEntries() {
		all = append(all, impl.Row{List: []impl.Entry{e}})
	}
	for _, a := range all {
		if !impl.RowSame(a, twinRow(a)) {
			t.Errorf("RowSame(%v, a twin of it) = false", a)
		}
		for _, b := range all {
			if got, want := impl.RowSame(a, b), exactRow(a, b); got != want {
				t.Errorf("RowSame(%v, %v) = %v, want %v", a, b, got, want)
			}
		}
	}
}

func TestRowSameTellsEachDifference(t *testing.T) {
	for _, r := range []impl.Row{rowOf(someMeasured()), rowOf(longMeasured(24)), rowOf(longMeasured(30)), rowOf(someMeasured()[:1])} {
		turns := []func(*impl.Row){
			func(r *impl.Row) { r.List = nil },
			func(r *impl.Row) { r.List = r.List[1:] },
			func(r *impl.Row) { r.List = r.List[:len(r.List)-1] },
			func(r *impl.Row) { r.List = append(r.List, impl.Entry{}) },
			func(r *impl.Row) { r.List = append(r.List, r.List[0]) },
			func(r *impl.Row) { r.List = slices.Insert(r.List, 0, impl.Entry{}) },
		}
		for k := range r.List {
			turns = append(turns,
				func(r *impl.Row) { r.List[k] = impl.Entry{} },
				func(r *impl.Row) { r.List[k].Key++ },
				func(r *impl.Row) { r.List[k].Window-- },
				func(r *impl.Row) { r.List[k].Ids[0].Lo-- },
				func(r *impl.Row) { r.List[k].Ids = append(r.List[k].Ids, impl.Span{}) },
				func(r *impl.Row) { r.List[k].Sketch.Count++ },
				func(r *impl.Row) { r.List[k].Sketch.Hist[7]++ },
				func(r *impl.Row) { r.List[k].Sketch.Rows[1][3]++ })
			if k > 0 {
				turns = append(turns, func(r *impl.Row) { r.List[0], r.List[k] = r.List[k], r.List[0] })
			}
		}
		for k, turn := range turns {
			other := changedRow(r, turn)
			if impl.RowSame(r, other) || impl.RowSame(other, r) {
				t.Errorf("turn %d: RowSame(%v, %v) = true", k, r, other)
			}
		}
	}
}

func TestZeroRow(t *testing.T) {
	for _, r := range []impl.Row{{}, {List: []impl.Entry{}}, {List: make([]impl.Entry, 0, 9)}} {
		if !impl.RowOk(r) || len(impl.RowIds(r)) != 0 || len(impl.RowSum(r)) != 0 {
			t.Errorf("RowOk, RowIds, RowSum of none = %v, %v, %v", impl.RowOk(r), impl.RowIds(r), impl.RowSum(r))
		}
		if !impl.RowSame(r, impl.Row{}) || !impl.RowSame(impl.Row{}, r) || impl.RowSame(r, impl.Row{List: make([]impl.Entry, 1)}) {
			t.Error("an empty list and nil are not the same, or one entry is nothing")
		}
		unpopped(t, "none", r)
		unpushed(t, "the zero entry", r, impl.Entry{})
		for _, join := range []bool{false, true} {
			if got, ok := impl.RowPush(r, someEntry(), join); !ok || !exactRow(got, impl.Row{List: []impl.Entry{someEntry()}}) {
				t.Errorf("RowPush into none = %v, %v", got, ok)
			}
		}
	}
}

var spareEntry = impl.Entry{Key: -77, Window: -78}

// roomyRow gives every list of a row spare room with a mark in it.
func roomyRow(r impl.Row) impl.Row {
	list := make([]impl.Entry, 0, len(r.List)+2)
	for _, e := range r.List {
		list = append(list, roomyEntry(e))
	}
	return impl.Row{List: append(list, spareEntry, spareEntry)[:len(list)]}
}

// rowAsGiven: the row is as it was, and so is the room behind its lists.
func rowAsGiven(r, was impl.Row) bool {
	return slices.EqualFunc(r.List, was.List, entryAsGiven) &&
		slices.EqualFunc(r.List[len(r.List):cap(r.List)], []impl.Entry{spareEntry, spareEntry}, exactEntry)
}

// scribbleEntries writes over all lists of an answer, and tells whether each was its own.
func scribbleEntries(list []impl.Entry) bool {
	was := twinRow(impl.Row{List: list}).List
	for k := range list {
		if !exactEntry(list[k], was[k]) || !scribbleEntry(list[k]) {
			return false
		}
	}
	list = list[:cap(list)]
	for k := range list {
		list[k] = impl.Entry{Key: -1000}
	}
	return true
}

// sharedWithin: rows whose entries have their lists in common, which an answer must not have.
func sharedWithin() []impl.Row {
	s, ids := heap([]int{5, 100, 5}), spanList(3, 4)
	s.Rows[1] = s.Rows[0]
	apart := impl.Row{List: []impl.Entry{atPlace(spanList(1, 1), s), atPlace(spanList(3, 3), s), {Key: 1, Window: 3, Ids: spanList(5, 5), Sketch: s}}}
	return []impl.Row{apart, {List: []impl.Entry{atPlace(ids, s), atPlace(ids, s)}}}
}

func TestRowPushSharesNothing(t *testing.T) {
	entries := []impl.Entry{{}, someEntry(), atPlace(spanList(9990, 9990), heap([]int{7})), measured{0, 20, []int{9990}, nil}.entry()}
	for _, x := range rowsOfAllSorts() {
		for _, y := range entries {
			for _, join := range []bool{false, true} {
				given, e := roomyRow(x), roomyEntry(y)
				got, ok := impl.RowPush(given, e, join)
				again, _ := impl.RowPush(given, e, join)
				was := twinRow(again)
				if !rowAsGiven(given, x) || !entryAsGiven(e, y) {
					t.Fatalf("RowPush(%v, %v, %v) wrote into one", x, y, join)
				}
				if !scribbleEntries(got.List) || !rowAsGiven(given, x) || !entryAsGiven(e, y) || !exactRow(again, was) {
					t.Fatalf("RowPush(%v, %v, %v), which tells %v: the answer shares memory", x, y, join, ok)
				}
			}
		}
	}
	for _, x := range sharedWithin() {
		for _, join := range []bool{false, true} {
			e := impl.Entry{Key: 1, Window: 3, Ids: spanList(7, 7), Sketch: x.List[0].Sketch}
			if got, ok := impl.RowPush(x, e, join); !scribbleEntries(got.List) {
				t.Errorf("RowPush(%v, %v, %v), which tells %v: its lists share memory", x, e, join, ok)
			}
		}
	}
}

// TestPushedTwiceFromOneRow: two that come of one row do not write into each other, though its list has room.
func TestPushedTwiceFromOneRow(t *testing.T) {
	r := roomyRow(rowOf(someMeasured()))
	for _, join := range []bool{false, true} {
		one, _ := impl.RowPush(r, measured{2, 3, []int{600}, []int{1}}.entry(), join)
		was := twinRow(one)
		other, _ := impl.RowPush(r, measured{2, 3, []int{700}, []int{2}}.entry(), join)
		_, rest, _ := impl.RowPop(one)
		impl.RowPush(rest, measured{4, 4, []int{800}, nil}.entry(), false)
		if !exactRow(one, was) || exactRow(one, other) || !rowAsGiven(r, rowOf(someMeasured())) {
			t.Errorf("%v and %v come of %v", one, other, r)
		}
	}
}

func TestRowPopSharesNothing(t *testing.T) {
	for _, x := range append(rowsOfAllSorts(), sharedWithin()...) {
		given := roomyRow(x)
		e, rest, ok := impl.RowPop(given)
		first, again, _ := impl.RowPop(given)
		wasFirst, wasAgain, wasRest := twinEntry(first), twinRow(again), twinRow(rest)
		if !rowAsGiven(given, x) {
			t.Fatalf("RowPop(%v) wrote into it", x)
		}
		if !scribbleEntry(e) || !exactRow(rest, wasRest) || !rowAsGiven(given, x) || !exactEntry(first, wasFirst) {
			t.Fatalf("RowPop(%v), which tells %v: the entry shares memory", x, ok)
		}
		if !scribbleEntries(rest.List) || !rowAsGiven(given, x) || !exactEntry(first, wasFirst) || !exactRow(again, wasAgain) {
			t.Fatalf("RowPop(%v), which tells %v: the row shares memory", x, ok)
		}
	}
	for _, x := range sharedWithin() {
		e, rest, ok := impl.RowPop(x)
		was := twinEntry(e)
		if !scribbleEntries(rest.List) || !exactEntry(e, was) || !scribbleEntry(e) {
			t.Errorf("RowPop(%v), which tells %v: its lists share memory", x, ok)
		}
	}
}

func TestAskingLeavesTheRow(t *testing.T) {
	for _, x := range append(rowsOfAllSorts(), sharedWithin()...) {
		given, other := roomyRow(x), roomyRow(rowOf(someMeasured()))
		impl.RowOk(given)
		impl.RowSame(given, other)
		impl.RowSame(other, given)
		impl.RowSame(given, given)
		ids, againIds := impl.RowIds(given), impl.RowIds(given)
		sums, againSums := impl.RowSum(given), impl.RowSum(given)
		wasIds, wasSums := slices.Clone(againIds), twinRow(impl.Row{List: againSums})
		if !rowAsGiven(given, x) || !rowAsGiven(other, rowOf(someMeasured())) {
			t.Fatalf("asking wrote into %v", x)
		}
		overwrite(ids)
		if !scribbleEntries(sums) || !rowAsGiven(given, x) || !slices.Equal(againIds, wasIds) || !exactRow(impl.Row{List: againSums}, wasSums) {
			t.Fatalf("what is told of %v shares memory", x)
		}
	}
	for _, x := range sharedWithin() {
		if !scribbleEntries(impl.RowSum(x)) {
			t.Errorf("RowSum(%v): its lists share memory", x)
		}
	}
}
