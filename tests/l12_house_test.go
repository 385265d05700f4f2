package tests

import (
	"math"
	"slices"
	"testing"

	"loop.example/g00491/impl"
)

// outOf is what was told, by its Gen and by what it was made of.
type outOf struct {
	gen int
	measured
}

// kept is what is in the places of a house.
type kept struct {
	rows [3][2][]measured
	root []measured
	outs []outOf
}

func someConf() impl.Conf {
	return impl.Conf{Per: 8, Quantum: 20, Quota: 2, Weights: []int{1, 2, 4}, Join: 5, Long: 2, Grace: 1, Still: 5}
}

func leastConf() impl.Conf {
	return impl.Conf{Per: 1, Quantum: 1, Quota: 1, Weights: []int{1, 1, 1}, Join: 1, Long: 1, Grace: 0, Still: 1}
}

func fullConf() impl.Conf {
	return impl.Conf{Per: 8, Quantum: 60, Quota: 10, Weights: []int{4, 4, 4}, Join: 100, Long: 20, Grace: 20, Still: 50}
}

// changedConf is a twin with one thing turned.
func changedConf(c impl.Conf, turn func(*impl.Conf)) impl.Conf {
	c.Weights = slices.Clone(c.Weights)
	turn(&c)
	return c
}

// confPart is one number of a Conf, and from where to where it goes.
type confPart struct {
	name        string
	least, most int
	of          func(*impl.Conf) *int
}

func confParts() []confPart {
	return []confPart{
		{"Per", 1, 8, func(c *impl.Conf) *int { return &c.Per }},
		{"Quantum", 1, 60, func(c *impl.Conf) *int { return &c.Quantum }},
		{"Quota", 1, 10, func(c *impl.Conf) *int { return &c.Quota }},
		{"Join", 1, 100, func(c *impl.Conf) *int { return &c.Join }},
		{"Long", 1, 20, func(c *impl.Conf) *int { return &c.Long }},
		{"Grace", 0, 20, func(c *impl.Conf) *int { return &c.Grace }},
		{"Still", 1, 50, func(c *impl.Conf) *int { return &c.Still }},
	}
}

// goodConfs: each part at each number it may be, and all Weights.
func goodConfs() []impl.Conf {
	all := []impl.Conf{someConf(), leastConf(), fullConf()}
	for _, c := range all[:3] {
		for _, p := range confParts() {
			for n := p.least; n <= p.most; n++ {
				all = append(all, changedConf(c, func(c *impl.Conf) { *p.of(c) = n }))
			}
		}
		for _, list := range triples(1, 2, 3, 4) {
			all = append(all, changedConf(c, func(c *impl.Conf) { c.Weights = list }))
		}
	}
	return all
}

// badConfs: each is off in one thing.
func badConfs() map[string]impl.Conf {
	bad := map[string]impl.Conf{"zero": {}, "Weights alone": {Weights: []int{1, 1, 1}}}
	for name, c := range map[string]impl.Conf{"some": someConf(), "least": leastConf(), "full": fullConf()} {
		for _, p := range confParts() {
			for _, n := range []int{math.MinInt, -100, -2, -1, p.least - 1, p.most + 1, p.most + 2, 1000, math.MaxInt} {
				bad[name+": "+p.name+" "+impl.Digits(n)] = changedConf(c, func(c *impl.Conf) { *p.of(c) = n })
			}
		}
		for what, list := range wrongLists(1, 4) {
			bad[name+": Weights: "+what] = changedConf(c, func(c *impl.Conf) { c.Weights = list })
		}
	}
	return bad
}

// rightConf is ConfOk as the document's words have it.
func rightConf(c impl.Conf) bool {
	for _, p := range confParts() {
		if n := *p.of(&c); n < p.least || n > p.most {
			return false
		}
	}
	return len(c.Weights) == 3 && slices.Min(c.Weights) >= 1 && slices.Max(c.Weights) <= 4
}

func (k kept) added() []measured {
	all := slices.Clone(k.root)
	for _, x := range k.outs {
		all = append(all, x.measured)
	}
	return all
}

func (k kept) waiting() []measured {
	var all []measured
	for _, rows := range k.rows {
		all = slices.Concat(all, rows[0], rows[1])
	}
	return all
}

// seqsOf: which Seqs of the agent are among the numbers of these, each as often as it is.
func seqsOf(agent int, list []measured) []int {
	var seqs []int
	for _, m := range list {
		for _, n := range m.ids {
			if n/100 == agent {
				seqs = append(seqs, n%100)
			}
		}
	}
	return seqs
}

// houseOf is the house that keeps this, with the seats that go with it.
func houseOf(c impl.Conf, k kept) impl.House {
	h := impl.House{Conf: changedConf(c, func(*impl.Conf) {}), Turns: []impl.Turn{firstTurn(), firstTurn()}}
	for agent, rows := range k.rows {
		merged := len(seqsOf(agent, k.added()))
		taken := stretches(append(seqsOf(agent, k.added()), seqsOf(agent, k.waiting())...))
		h.Seats = append(h.Seats, impl.Seat{Granted: min(60, merged+c.Per), Taken: taken, Merged: merged})
		h.Rows = append(h.Rows, []impl.Row{rowOf(rows[0]), rowOf(rows[1])})
	}
	for _, m := range k.root {
		h.Root = append(h.Root, m.entry())
	}
	for _, x := range k.outs {
		h.Outs = append(h.Outs, impl.Out{Gen: x.gen, Entry: x.entry()})
	}
	return h
}

// someKept has entries in every row, in the root and in the Outs; of each agent the first number is taken, of the last one all.
func someKept() kept {
	return kept{
		rows: [3][2][]measured{
			{{{2, 3, []int{5, 7}, []int{5, 100, 5}}, {1, 7, []int{8}, []int{9}}}, {{2, 3, []int{6}, nil}}},
			{{{0, 0, []int{101}, []int{0}}}, {{4, 20, []int{103}, []int{1000000}}, {4, 20, []int{105}, []int{3}}}},
			{{{1, 3, []int{253}, []int{1}}, {1, 4, []int{254, 260}, []int{4849}}}, {{3, 3, []int{255, 256, 257, 258, 259}, []int{2, 2}}}},
		},
		root: []measured{{0, 5, []int{1, 102}, []int{7, 8}}, {2, 3, []int{2, 104}, []int{1, 1}}, {2, 4, []int{201, 202}, nil}, {3, 0, []int{203}, []int{6}}},
		outs: []outOf{
			{0, measured{2, 3, []int{3}, []int{5}}}, {0, measured{0, 0, between(205, 252), []int{1, 2, 3}}}, {1, measured{2, 3, []int{4, 204}, []int{5, 6}}},
			{0, measured{4, 20, []int{106}, nil}}, {1, measured{0, 0, []int{9}, []int{44}}}, {2, measured{2, 3, []int{107}, []int{0}}},
		},
	}
}

func between(lo, hi int) []int {
	var list []int
	for n := lo; n <= hi; n++ {
		list = append(list, n)
	}
	return list
}

// someHouse is HouseOk, and no part of it is zero.
func someHouse() impl.House {
	h := houseOf(someConf(), someKept())
	h.Clock, h.Closed, h.Since = 70, true, 1
	h.Turns = []impl.Turn{turnAt(1, false, 3, 0, 40), turnAt(2, true, 0, 1000, 7)}
	h.Seats[0].Epoch, h.Seats[0].Last = 3, 69
	h.Seats[1].Granted, h.Seats[1].Last = 7, 1000000
	h.Seats[2].Epoch = 1000
	return h
}

// newHouse is HouseNew of a Conf that is right, as the document's words have it.
func newHouse(c impl.Conf) impl.House {
	var h impl.House
	h.Conf = changedConf(c, func(*impl.Conf) {})
	for range 3 {
		h.Seats = append(h.Seats, impl.Seat{Granted: c.Per})
		h.Rows = append(h.Rows, []impl.Row{{}, {}})
	}
	h.Turns = []impl.Turn{{Fresh: true, Left: []int{0, 0, 0}}, {Fresh: true, Left: []int{0, 0, 0}}}
	return h
}

// fullHouse has told all that there can be, and every number is at its limit.
func fullHouse() impl.House {
	var k kept
	for seq := 1; seq <= 60; seq++ {
		key, window := seq%5, seq%21
		m := measured{key, window, []int{seq, 100 + seq, 200 + seq}, []int{seq}}
		if seq > 40 {
			m.key, m.window = 4, 20
		}
		gen := len(slices.DeleteFunc(slices.Clone(k.outs), func(x outOf) bool { return !x.isAt(m) }))
		k.outs = append(k.outs, outOf{gen, m})
	}
	h := houseOf(fullConf(), k)
	h.Clock, h.Since = 100000, 1000
	for k := range h.Turns {
		h.Turns[k] = turnAt(2, true, 1000, 1000, 1000)
	}
	for k := range h.Seats {
		h.Seats[k].Epoch, h.Seats[k].Last = 1000, 1000000
	}
	return h
}

// rootHouse has an entry of every key and window in its root, one more in one row, and told nothing.
func rootHouse() impl.House {
	var k kept
	for n := range 105 {
		k.root = append(k.root, measured{n / 21, n % 21, []int{n%3*100 + n/3 + 1}, []int{n}})
	}
	k.rows[1][1] = []measured{{0, 0, []int{143}, []int{1}}}
	return houseOf(someConf(), k)
}

// goodHouses: such as are HouseOk.
func goodHouses() []impl.House {
	all := []impl.House{newHouse(someConf()), newHouse(leastConf()), newHouse(fullConf()), houseOf(someConf(), someKept()), someHouse(), fullHouse(), rootHouse()}
	// Not a thing is granted or heard yet.
	all = append(all, changedHouse(newHouse(someConf()), func(h *impl.House) { h.Seats = make([]impl.Seat, 3) }))
	for n := range 8 {
		var k kept
		k.rows[n/3][n%2] = []measured{{n % 5, 3 * n % 21, []int{n/3*100 + 1 + n%3, n/3*100 + 8}, []int{n}}}
		all = append(all, houseOf(someConf(), k))
	}
	for agent := range 3 {
		for _, seq := range []int{1, 2, 8} {
			m := measured{3, 3, []int{agent*100 + seq}, []int{seq}}
			all = append(all, houseOf(someConf(), kept{root: []measured{m}}), houseOf(someConf(), kept{outs: []outOf{{0, m}}}))
		}
	}
	return all
}

func exactConf(a, b impl.Conf) bool {
	return a.Per == b.Per && a.Quantum == b.Quantum && a.Quota == b.Quota && slices.Equal(a.Weights, b.Weights) &&
		a.Join == b.Join && a.Long == b.Long && a.Grace == b.Grace && a.Still == b.Still
}

func exactOut(a, b impl.Out) bool { return a.Gen == b.Gen && exactEntry(a.Entry, b.Entry) }

// exactHouse holds two houses against each other without the program's own HouseSame.
func exactHouse(a, b impl.House) bool {
	return exactConf(a.Conf, b.Conf) && a.Clock == b.Clock && a.Closed == b.Closed && a.Since == b.Since &&
		slices.EqualFunc(a.Seats, b.Seats, exactSeat) && slices.EqualFunc(a.Turns, b.Turns, exactTurn) &&
		slices.EqualFunc(a.Rows, b.Rows, func(x, y []impl.Row) bool { return slices.EqualFunc(x, y, exactRow) }) &&
		slices.EqualFunc(a.Root, b.Root, exactEntry) && slices.EqualFunc(a.Outs, b.Outs, exactOut)
}

func twinHouse(h impl.House) impl.House {
	h.Conf.Weights = slices.Clone(h.Conf.Weights)
	h.Seats, h.Rows, h.Turns, h.Root, h.Outs = slices.Clone(h.Seats), slices.Clone(h.Rows), slices.Clone(h.Turns), slices.Clone(h.Root), slices.Clone(h.Outs)
	for k := range h.Seats {
		h.Seats[k] = changedSeat(h.Seats[k], func(*impl.Seat) {})
	}
	for k := range h.Rows {
		h.Rows[k] = slices.Clone(h.Rows[k])
		for c := range h.Rows[k] {
			h.Rows[k][c] = twinRow(h.Rows[k][c])
		}
	}
	for k := range h.Turns {
		h.Turns[k] = twinTurn(h.Turns[k])
	}
	for k := range h.Root {
		h.Root[k] = twinEntry(h.Root[k])
	}
	for k := range h.Outs {
		h.Outs[k].Entry = twinEntry(h.Outs[k].Entry)
	}
	return h
}

// changedHouse is a twin with one thing turned.
func changedHouse(h impl.House, turn func(*impl.House)) impl.House {
	h = twinHouse(h)
	turn(&h)
	return h
}

// rightHouse is HouseOk as the document's words have it: number by number.
func rightHouse(h impl.House) bool {
	if !rightConf(h.Conf) || h.Clock < 0 || h.Clock > 100000 || h.Since < 0 || h.Since > 1000 {
		return false
	}
	if len(h.Seats) != 3 || len(h.Rows) != 3 || len(h.Turns) != 2 || !slices.ContainsFunc(h.Turns, impl.TurnOk) {
		return false
	}
	return impl.TurnOk(h.Turns[0]) && impl.TurnOk(h.Turns[1]) && rightRoot(h.Root) && rightOuts(h.Outs) && rightRows(h.Rows) && rightNumbers(h)
}

func rightRoot(root []impl.Entry) bool {
	last := -1
	for _, e := range root {
		if !impl.EntryOk(e) || e.Key*21+e.Window <= last {
			return false
		}
		last = e.Key*21 + e.Window
	}
	return true
}

func rightOuts(outs []impl.Out) bool {
	for k, x := range outs {
		ahead := 0
		for _, y := range outs[:k] {
			if y.Entry.Key == x.Entry.Key && y.Entry.Window == x.Entry.Window {
				ahead++
			}
		}
		if !impl.EntryOk(x.Entry) || x.Gen != ahead {
			return false
		}
	}
	return true
}

func rightRows(rows [][]impl.Row) bool {
	for agent, pair := range rows {
		if len(pair) != 2 {
			return false
		}
		for _, r := range pair {
			if !impl.RowOk(r) {
				return false
			}
			for _, e := range r.List {
				for _, n := range numbersOf(e.Ids) {
					if n < 100*agent+1 || n > 100*agent+60 {
						return false
					}
				}
			}
		}
	}
	return true
}

// rightNumbers: each number that was taken is in one place, and no other one is; of each seat just those that left the rows count as Merged.
func rightNumbers(h impl.House) bool {
	var all, taken []int
	merged := make([]int, 3)
	for _, pair := range h.Rows {
		for _, e := range append(slices.Clone(pair[0].List), pair[1].List...) {
			all = append(all, numbersOf(e.Ids)...)
		}
	}
	left := slices.Clone(h.Root)
	for _, x := range h.Outs {
		left = append(left, x.Entry)
	}
	for _, e := range left {
		for _, n := range numbersOf(e.Ids) {
			if all = append(all, n); n/100 < 3 {
				merged[n/100]++
			}
		}
	}
	for agent, s := range h.Seats {
		if !impl.SeatOk(s, h.Conf.Per) || s.Merged != merged[agent] {
			return false
		}
		for _, seq := range numbersOf(s.Taken) {
			taken = append(taken, 100*agent+seq)
		}
	}
	slices.Sort(all)
	slices.Sort(taken)
	return slices.Equal(all, taken)
}

// isHouse: HouseOk tells what the words tell.
func isHouse(t *testing.T, name string, h impl.House, want bool) {
	t.Helper()
	if got := impl.HouseOk(h); got != want || rightHouse(h) != want {
		t.Errorf("%s: HouseOk = %v, want %v, of %v", name, got, want, h)
	}
}

func TestHouseConstants(t *testing.T) {
	if impl.MaxClock != 100000 {
		t.Errorf("MaxClock = %d", impl.MaxClock)
	}
}

func TestConfOk(t *testing.T) {
	for _, c := range goodConfs() {
		if !impl.ConfOk(c) || !rightConf(c) {
			t.Errorf("ConfOk(%v) = false", c)
		}
	}
	for name, c := range badConfs() {
		if impl.ConfOk(c) || rightConf(c) {
			t.Errorf("%s: ConfOk(%v) = true", name, c)
		}
	}
	for _, c := range []impl.Conf{someConf(), leastConf(), fullConf()} {
		for _, p := range confParts() {
			for n := -3; n <= 110; n++ {
				turned := changedConf(c, func(c *impl.Conf) { *p.of(c) = n })
				if got := impl.ConfOk(turned); got != (n >= p.least && n <= p.most) {
					t.Errorf("%s %d: ConfOk(%v) = %v", p.name, n, turned, got)
				}
			}
		}
	}
}

func TestHouseNew(t *testing.T) {
	for _, c := range goodConfs() {
		h, ok := impl.HouseNew(c)
		if !ok || !exactHouse(h, newHouse(c)) {
			t.Errorf("HouseNew(%v) = %v, %v, want %v", c, h, ok, newHouse(c))
		}
		isHouse(t, "just made", h, true)
		if impl.Items(h) != 0 {
			t.Errorf("Items of %v = %d", h, impl.Items(h))
		}
	}
	for name, c := range badConfs() {
		if h, ok := impl.HouseNew(c); ok || !exactHouse(h, impl.House{}) {
			t.Errorf("%s: HouseNew(%v) = %v, %v, want zero, false", name, c, h, ok)
		}
	}
}

func TestZeroHouse(t *testing.T) {
	isHouse(t, "zero", impl.House{}, false)
	isHouse(t, "a Conf alone", impl.House{Conf: someConf()}, false)
	if impl.Items(impl.House{}) != 0 || !impl.HouseSame(impl.House{}, impl.House{}) || impl.HouseSame(impl.House{}, newHouse(someConf())) {
		t.Error("what is told of the zero house is wrong")
	}
}

func TestHouseOk(t *testing.T) {
	for k, h := range goodHouses() {
		isHouse(t, "good "+impl.Digits(k), h, true)
		isHouse(t, "good, Closed or not "+impl.Digits(k), changedHouse(h, func(h *impl.House) { h.Closed = !h.Closed }), true)
	}
}

func TestHouseOkOfConfs(t *testing.T) {
	for _, c := range goodConfs() {
		isHouse(t, "of a Conf", newHouse(c), true)
		isHouse(t, "all told", changedHouse(fullHouse(), func(h *impl.House) { h.Conf = c }), true)
	}
	for name, c := range badConfs() {
		// What has nothing granted goes with every share that there is.
		for _, h := range []impl.House{newHouse(someConf()), {Seats: make([]impl.Seat, 3), Rows: newHouse(someConf()).Rows, Turns: newHouse(someConf()).Turns}, fullHouse()} {
			h.Conf = c
			isHouse(t, name, h, false)
		}
	}
}

func TestHouseOkAtTheLimits(t *testing.T) {
	for _, h := range []impl.House{newHouse(leastConf()), someHouse(), fullHouse()} {
		for _, n := range []int{math.MinInt, -2, -1, 0, 1, 50, 999, 1000, 1001, 1002, 99999, 100000, 100001, 100002, math.MaxInt} {
			isHouse(t, "Clock "+impl.Digits(n), changedHouse(h, func(h *impl.House) { h.Clock = n }), n >= 0 && n <= 100000)
			isHouse(t, "Since "+impl.Digits(n), changedHouse(h, func(h *impl.House) { h.Since = n }), n >= 0 && n <= 1000)
		}
	}
}

// TestHouseOkOfTooFewOrTooMany: seats, rows and turns, each list by itself.
func TestHouseOkOfTooFewOrTooMany(t *testing.T) {
	row := impl.Row{}
	for k, h := range []impl.House{newHouse(leastConf()), someHouse(), fullHouse()} {
		for name, turn := range map[string]func(*impl.House){
			"Seats: one too few":            func(h *impl.House) { h.Seats = h.Seats[:2] },
			"Seats: without the first":      func(h *impl.House) { h.Seats = h.Seats[1:] },
			"Seats: one too many":           func(h *impl.House) { h.Seats = append(h.Seats, impl.Seat{}) },
			"Seats: one too many, granted":  func(h *impl.House) { h.Seats = append(h.Seats, impl.Seat{Granted: h.Conf.Per}) },
			"Seats: one too many, taken":    func(h *impl.House) { h.Seats = append(h.Seats, impl.Seat{Granted: 1, Taken: spanList(1, 1)}) },
			"Seats: none":                   func(h *impl.House) { h.Seats = []impl.Seat{} },
			"Seats: nil":                    func(h *impl.House) { h.Seats = nil },
			"Rows: one too few":             func(h *impl.House) { h.Rows = h.Rows[:2] },
			"Rows: without the first":       func(h *impl.House) { h.Rows = h.Rows[1:] },
			"Rows: one too many":            func(h *impl.House) { h.Rows = append(h.Rows, []impl.Row{row, row}) },
			"Rows: one too many, of none":   func(h *impl.House) { h.Rows = append(h.Rows, nil) },
			"Rows: one with an entry more":  func(h *impl.House) { h.Rows = append(h.Rows, []impl.Row{rowOf(onePlace(1)), row}) },
			"Rows: none":                    func(h *impl.House) { h.Rows = [][]impl.Row{} },
			"Rows: nil":                     func(h *impl.House) { h.Rows = nil },
			"Rows: three times none":        func(h *impl.House) { h.Rows = make([][]impl.Row, 3) },
			"Rows: six of one":              func(h *impl.House) { h.Rows = [][]impl.Row{{row}, {row}, {row}, {row}, {row}, {row}} },
			"Rows: two of three":            func(h *impl.House) { h.Rows = [][]impl.Row{{row, row, row}, {row, row, row}} },
			"Turns: one too few":            func(h *impl.House) { h.Turns = h.Turns[:1] },
			"Turns: one too many":           func(h *impl.House) { h.Turns = append(h.Turns, impl.TurnNew()) },
			"Turns: as many as agents, two": func(h *impl.House) { h.Turns = append(h.Turns, impl.TurnNew(), impl.TurnNew()) },
			"Turns: none":                   func(h *impl.House) { h.Turns = []impl.Turn{} },
			"Turns: nil":                    func(h *impl.House) { h.Turns = nil },
		} {
			isHouse(t, name+" "+impl.Digits(k), changedHouse(h, turn), false)
		}
		for agent := range 3 {
			for name, turn := range map[string]func(rows []impl.Row) []impl.Row{
				"one too few":          func(rows []impl.Row) []impl.Row { return rows[:1] },
				"without the first":    func(rows []impl.Row) []impl.Row { return rows[1:] },
				"one too many":         func(rows []impl.Row) []impl.Row { return append(rows, row) },
				"one too many, ahead":  func(rows []impl.Row) []impl.Row { return append([]impl.Row{row}, rows...) },
				"none":                 func(rows []impl.Row) []impl.Row { return []impl.Row{} },
				"nil":                  func(rows []impl.Row) []impl.Row { return nil },
				"as many as agents, 2": func(rows []impl.Row) []impl.Row { return append(rows, row, row) },
			} {
				isHouse(t, "rows of one agent: "+name, changedHouse(h, func(h *impl.House) { h.Rows[agent] = turn(h.Rows[agent]) }), false)
			}
		}
	}
	// A seat too many for which there are rows, too; a seat too few that has none, either.
	isHouse(t, "four agents", changedHouse(someHouse(), func(h *impl.House) {
		h.Seats, h.Rows = append(h.Seats, impl.Seat{}), append(h.Rows, []impl.Row{row, row})
	}), false)
	isHouse(t, "two agents", changedHouse(newHouse(someConf()), func(h *impl.House) { h.Seats, h.Rows = h.Seats[:2], h.Rows[:2] }), false)
}

func TestHouseOkOfWrongParts(t *testing.T) {
	some := someHouse()
	for agent := range 3 {
		for name, x := range badSeats() {
			h := changedHouse(newHouse(someConf()), func(h *impl.House) { h.Seats[agent] = x.seat })
			if x.per != 8 {
				h.Conf.Per = x.per
			}
			isHouse(t, "seat "+name, h, false)
		}
		for what, turn := range map[string]func(*impl.Seat){
			"Epoch -1":           func(s *impl.Seat) { s.Epoch = -1 },
			"Epoch 1001":         func(s *impl.Seat) { s.Epoch = 1001 },
			"Last -1":            func(s *impl.Seat) { s.Last = -1 },
			"Last 1000001":       func(s *impl.Seat) { s.Last = 1000001 },
			"Granted 61":         func(s *impl.Seat) { s.Granted = 61 },
			"Granted below":      func(s *impl.Seat) { s.Granted = slices.Max(numbersOf(s.Taken)) - 1 },
			"Granted above":      func(s *impl.Seat) { s.Granted = s.Merged + 9 },
			"Taken not in order": func(s *impl.Seat) { s.Taken = append(spanList(s.Granted, s.Granted), s.Taken...) },
			"Taken in parts":     func(s *impl.Seat) { s.Taken = append(spanList(1, 1, 2, s.Taken[0].Hi), s.Taken[1:]...) },
			"Taken with nothing": func(s *impl.Seat) { s.Taken = append(spanList(1, 0), s.Taken...) },
		} {
			isHouse(t, what, changedHouse(some, func(h *impl.House) { turn(&h.Seats[agent]) }), false)
		}
		for class := range 2 {
			for name, r := range badRows() {
				isHouse(t, name, changedHouse(newHouse(someConf()), func(h *impl.House) { h.Rows[agent][class] = r }), false)
			}
		}
	}
	for class := range 2 {
		for name, x := range badTurns() {
			isHouse(t, name, changedHouse(some, func(h *impl.House) { h.Turns[class] = x }), false)
		}
	}
}

// TestHouseOkOfWrongEntries: what is wrong in an entry is so wherever it stands; its numbers are left as they are, if they are not what is wrong.
func TestHouseOkOfWrongEntries(t *testing.T) {
	some := someHouse()
	for _, find := range everyEntry(some) {
		ids := slices.Clone(find(&some).Ids)
		for name, bad := range badEntries() {
			h := twinHouse(some)
			was := twinEntry(*find(&h))
			*find(&h) = twinEntry(bad)
			if slices.Equal(bad.Ids, someEntry().Ids) {
				find(&h).Ids = ids
			}
			isHouse(t, name, h, false)
			// The place stays as it was, so that no order is broken.
			if e := find(&h); bad.Key == someEntry().Key && bad.Window == someEntry().Window {
				e.Key, e.Window = was.Key, was.Window
				isHouse(t, name+", at its place", h, false)
			}
		}
		for name, s := range badSketches() {
			isHouse(t, name, changedHouse(some, func(h *impl.House) { find(h).Sketch = s }), false)
		}
		for _, s := range goodSketches() {
			isHouse(t, "another summary", changedHouse(some, func(h *impl.House) { find(h).Sketch = s }), true)
		}
	}
	// alone, where nothing is taken
	for name, bad := range badEntries() {
		for where, turn := range map[string]func(*impl.House){
			"root": func(h *impl.House) { h.Root = []impl.Entry{bad} },
			"Outs": func(h *impl.House) { h.Outs = []impl.Out{{Entry: bad}} },
			"row":  func(h *impl.House) { h.Rows[1][0].List = []impl.Entry{bad} },
		} {
			isHouse(t, name+", alone in "+where, changedHouse(newHouse(someConf()), turn), false)
		}
	}
	// Such as are out of range at the ends, where the order of places is kept.
	for name, turn := range map[string]func(*impl.House){
		"root, Key -1":                func(h *impl.House) { h.Root[0].Key = -1 },
		"root, Window -1":             func(h *impl.House) { h.Root[0].Window = -1 },
		"root, Key 5":                 func(h *impl.House) { h.Root[3].Key = 5 },
		"root, Window 21":             func(h *impl.House) { h.Root[3].Window = 21 },
		"root, an entry of no number": func(h *impl.House) { h.Root = append(h.Root, impl.Entry{Key: 4, Window: 9, Sketch: heap(nil)}) },
		"Out, Key -1":                 func(h *impl.House) { h.Outs[3].Entry.Key = -1 },
		"Out, Key 5":                  func(h *impl.House) { h.Outs[3].Entry.Key = 5 },
		"Out, Window -1":              func(h *impl.House) { h.Outs[3].Entry.Window = -1 },
		"Out, Window 21":              func(h *impl.House) { h.Outs[3].Entry.Window = 21 },
		"Out, zero":                   func(h *impl.House) { h.Outs = append(h.Outs, impl.Out{}) },
		"Out, an entry of no number": func(h *impl.House) {
			h.Outs = append(h.Outs, impl.Out{Entry: impl.Entry{Key: 4, Window: 9, Sketch: heap(nil)}})
		},
		"row, an entry of no number": func(h *impl.House) { r := &h.Rows[0][1]; r.List = append(r.List, impl.Entry{Sketch: heap(nil)}) },
	} {
		isHouse(t, name, changedHouse(some, turn), false)
	}
}

// everyEntry: where each entry of such a house stands.
func everyEntry(h impl.House) []func(*impl.House) *impl.Entry {
	var all []func(*impl.House) *impl.Entry
	for agent, rows := range h.Rows {
		for class, r := range rows {
			for k := range r.List {
				all = append(all, func(h *impl.House) *impl.Entry { return &h.Rows[agent][class].List[k] })
			}
		}
	}
	for k := range h.Root {
		all = append(all, func(h *impl.House) *impl.Entry { return &h.Root[k] })
	}
	for k := range h.Outs {
		all = append(all, func(h *impl.House) *impl.Entry { return &h.Outs[k].Entry })
	}
	return all
}

// spot is a place that an entry can be put to: a row, the root or the Outs.
type spot struct {
	name        string
	agent, kind int
}

const (
	inRoot = 2 // below are the rows, by class
	inOuts = 3
)

func allSpots() []spot {
	var all []spot
	for agent := range 3 {
		for class := range 2 {
			all = append(all, spot{"row " + impl.Digits(class) + " of " + impl.Digits(agent), agent, class})
		}
	}
	return append(all, spot{"root", -1, inRoot}, spot{"Outs", -1, inOuts})
}

// puts is k with m at the spot, where all that the order asks for is kept.
func (k kept) puts(at spot, m measured) kept {
	switch at.kind {
	case inRoot:
		k.root = slices.Clone(k.root)
		if i := slices.IndexFunc(k.root, m.isAt); i >= 0 {
			k.root[i] = k.root[i].and(m)
			return k
		}
		i := slices.IndexFunc(k.root, func(o measured) bool { return o.key*21+o.window > m.key*21+m.window })
		if i < 0 {
			i = len(k.root)
		}
		k.root = slices.Insert(k.root, i, m)
	case inOuts:
		gen := 0
		for _, x := range k.outs {
			if x.isAt(m) {
				gen++
			}
		}
		k.outs = append(slices.Clone(k.outs), outOf{gen, m})
	default:
		k.rows[at.agent][at.kind] = append(slices.Clone(k.rows[at.agent][at.kind]), m)
	}
	return k
}

// fits: whether the spot is one for the numbers of this agent.
func (s spot) fits(agent int) bool { return s.agent < 0 || s.agent == agent }

// TestInTwoPlaces: whichever two places have a number in common, the same entry or another one, with Merged as it was or as the places have it.
func TestInTwoPlaces(t *testing.T) {
	for agent := range 3 {
		for _, one := range allSpots() {
			for _, two := range allSpots() {
				if !one.fits(agent) || !two.fits(agent) {
					continue
				}
				m, n := measured{4, 9, []int{100*agent + 1}, []int{5}}, measured{4, 10, []int{100*agent + 1}, []int{6}}
				checkTwoPlaces(t, one.name+" and "+two.name, agent, kept{}.puts(one, m), two, n)
				n.key, n.window = 4, 9
				if one.kind != inRoot || two.kind != inRoot {
					checkTwoPlaces(t, "of one place, "+one.name+" and "+two.name, agent, kept{}.puts(one, m), two, n)
				}
				wide, last := measured{4, 9, []int{100*agent + 2, 100*agent + 4, 100*agent + 5}, nil}, measured{3, 20, []int{100*agent + 1, 100*agent + 5}, nil}
				checkTwoPlaces(t, "one number of several, "+one.name+" and "+two.name, agent, kept{}.puts(one, wide), two, last)
			}
		}
	}
}

// checkTwoPlaces: k is right by itself, and not with m at that spot, which has a number of it.
func checkTwoPlaces(t *testing.T, name string, agent int, k kept, at spot, m measured) {
	t.Helper()
	isHouse(t, "one place", houseOf(someConf(), k), true)
	h := houseOf(someConf(), k.puts(at, m))
	isHouse(t, name, h, false)
	for merged := range 9 {
		h.Seats[agent].Merged, h.Seats[agent].Granted = merged, 8
		isHouse(t, name+", Merged "+impl.Digits(merged), h, false)
	}
	h.Seats[agent] = impl.Seat{Granted: 8}
	isHouse(t, name+", nothing taken", h, false)
}

// TestAgainInAFullHouse: each number that some house keeps, put to each place once more.
func TestAgainInAFullHouse(t *testing.T) {
	some := someKept()
	for _, m := range append(some.waiting(), some.added()...) {
		for _, n := range m.ids {
			for _, at := range allSpots() {
				if at.kind < inRoot && at.agent != n/100 {
					continue
				}
				h := houseOf(someConf(), some.puts(at, measured{4, 9, []int{n}, []int{5}}))
				isHouse(t, "again in "+at.name, h, false)
				h.Seats[n/100].Merged = houseOf(someConf(), some).Seats[n/100].Merged
				isHouse(t, "again in "+at.name+", Merged as it was", h, false)
			}
		}
	}
}

// TestTakenAndInNoPlace: one more is taken than there are in the places.
func TestTakenAndInNoPlace(t *testing.T) {
	for agent, next := range []int{10, 8} {
		h := someHouse()
		s := &h.Seats[agent]
		s.Granted = s.Merged + 8
		isHouse(t, "granted", h, true)
		for seq := next; seq <= s.Granted; seq++ {
			isHouse(t, "taken and in no place", changedHouse(h, func(h *impl.House) {
				h.Seats[agent].Taken = stretches(append(numbersOf(s.Taken), seq))
			}), false)
		}
	}
	isHouse(t, "taken and nothing kept", changedHouse(newHouse(someConf()), func(h *impl.House) { h.Seats[1].Taken = spanList(1, 1) }), false)
	isHouse(t, "taken and added up, nothing kept", changedHouse(newHouse(someConf()), func(h *impl.House) {
		h.Seats[1].Taken, h.Seats[1].Merged = spanList(1, 1), 1
	}), false)
	// an entry that is no more, wherever it was
	for _, at := range allSpots() {
		for agent := range 3 {
			if !at.fits(agent) {
				continue
			}
			h := houseOf(someConf(), kept{}.puts(at, measured{4, 9, []int{100*agent + 2}, nil}))
			gone := houseOf(someConf(), kept{})
			gone.Seats = h.Seats
			isHouse(t, at.name, h, true)
			isHouse(t, at.name+" is empty", gone, false)
			gone.Seats[agent].Merged, gone.Seats[agent].Granted = 0, 8
			isHouse(t, at.name+" is empty, nothing added up", gone, false)
		}
	}
	for _, find := range everyEntry(someHouse()) {
		// a number of several that is no more
		isHouse(t, "one number less", changedHouse(someHouse(), func(h *impl.House) {
			e := find(h)
			e.Ids = stretches(numbersOf(e.Ids)[1:])
		}), false)
	}
}

// TestInAPlaceAndNotTaken: one more is in a place than were taken.
func TestInAPlaceAndNotTaken(t *testing.T) {
	for _, at := range allSpots() {
		for agent := range 3 {
			if !at.fits(agent) {
				continue
			}
			for _, seq := range []int{1, 2, 8} {
				h := houseOf(someConf(), kept{}.puts(at, measured{4, 9, []int{100*agent + seq}, nil}))
				isHouse(t, at.name, h, true)
				h.Seats[agent].Taken = nil
				isHouse(t, at.name+", not taken", h, false)
				h.Seats[agent].Merged, h.Seats[agent].Granted = 0, 8
				isHouse(t, at.name+", not taken, nothing added up", h, false)
				h.Seats[agent].Taken = spanList(3, 3)
				isHouse(t, at.name+", another one taken", h, false)
				h.Seats[(agent+1)%3].Taken = spanList(seq, seq)
				h.Seats[agent].Taken = nil
				isHouse(t, at.name+", taken of another agent", h, false)
			}
		}
	}
	some := someHouse()
	for agent, s := range some.Seats {
		for _, seq := range numbersOf(s.Taken) {
			rest := slices.DeleteFunc(numbersOf(s.Taken), func(n int) bool { return n == seq })
			isHouse(t, "no more taken", changedHouse(some, func(h *impl.House) { h.Seats[agent].Taken = stretches(rest) }), false)
		}
	}
	// numbers that are of no agent, in the root and in the Outs
	for _, n := range []int{0, 61, 99, 100, 161, 199, 200, 261, 299, 300, 301, 360, 1000, 9998, 9999} {
		m := measured{4, 9, []int{n}, []int{5}}
		for _, base := range []kept{{}, someKept()} {
			h := houseOf(someConf(), base)
			right := houseOf(someConf(), base.puts(spot{"root", -1, inRoot}, m))
			right.Seats = h.Seats
			isHouse(t, "no agent's, in the root "+impl.Digits(n), right, false)
			right = houseOf(someConf(), base.puts(spot{"Outs", -1, inOuts}, m))
			right.Seats = h.Seats
			isHouse(t, "no agent's, in an Out "+impl.Digits(n), right, false)
		}
	}
}

// TestNumbersOfOtherAgents: in a row just an agent's own numbers stand, alone or with others; elsewhere those of all agents.
func TestNumbersOfOtherAgents(t *testing.T) {
	for owner := range 3 {
		for _, seq := range []int{1, 2, 8, 59, 60} {
			m := measured{4, 9, []int{100*owner + seq}, []int{5}}
			for agent := range 3 {
				for class := range 2 {
					at := spot{"", agent, class}
					h := houseOf(someConf(), ahead(owner, seq).puts(at, m))
					isHouse(t, "a number of "+impl.Digits(owner)+" in a row of "+impl.Digits(agent), h, owner == agent)
					with := m
					with.ids = []int{100*owner + seq, 100*agent + 1}
					if slices.Sort(with.ids); owner != agent {
						h = houseOf(someConf(), ahead(owner, seq).puts(at, with))
						isHouse(t, "one's own with it", h, false)
					}
				}
			}
			for _, at := range allSpots()[6:] {
				isHouse(t, at.name, houseOf(someConf(), ahead(owner, seq).puts(at, m)), true)
			}
		}
	}
	// Just below and just above an agent's own, of nobody or of others; taken of whom they would be.
	for agent := range 3 {
		for class := range 2 {
			for _, n := range []int{100*agent - 40, 100 * agent, 100*agent + 61, 100*agent + 99, 100*agent + 100, 100*agent + 101, 0, 9999} {
				if n < 0 {
					continue
				}
				h := newHouse(someConf())
				h.Rows[agent][class] = rowOf([]measured{{4, 9, []int{n}, []int{5}}})
				isHouse(t, "not one's own "+impl.Digits(n), h, false)
				for _, taken := range [][]impl.Span{spanList(1, 1), spanList(8, 8), spanList(max(n%100, 1), max(n%100, 1))} {
					for k := range h.Seats {
						h.Seats[k] = impl.Seat{Granted: 8, Taken: taken}
						isHouse(t, "not one's own "+impl.Digits(n), h, false)
						h.Seats[k] = impl.Seat{Granted: 8}
					}
				}
			}
		}
	}
	// A span that begins at an agent's last number and goes on to another's first, all of it in one row.
	h := houseOf(someConf(), ahead(0, 60))
	h.Seats[0].Taken = spanList(1, 60)
	h.Rows[0][0] = impl.Row{List: []impl.Entry{atPlace(spanList(60, 101), heap([]int{5}))}}
	isHouse(t, "over a gap", h, false)
}

// ahead: all that the agent had ahead of this Seq was told, as far as it must be.
func ahead(agent, seq int) kept {
	if seq <= 8 {
		return kept{}
	}
	return kept{outs: []outOf{{0, measured{0, 0, between(100*agent+1, 100*agent+seq-1), nil}}}}
}

func TestRootInOrder(t *testing.T) {
	at := func(places ...[2]int) impl.House {
		var k kept
		for n, p := range places {
			k.root = append(k.root, measured{p[0], p[1], []int{100*(n%3) + n/3 + 1}, []int{n}})
		}
		return houseOf(someConf(), k)
	}
	places := [][2]int{{0, 0}, {0, 1}, {0, 20}, {1, 0}, {1, 19}, {2, 3}, {4, 0}, {4, 20}}
	isHouse(t, "in order", at(places...), true)
	for i, a := range places {
		isHouse(t, "one alone", at(a), true)
		for j, b := range places {
			// A greater window of a lesser key is ahead all the same.
			isHouse(t, "two", at(a, b), i < j)
			for k, c := range places {
				isHouse(t, "three", at(a, b, c), i < j && j < k)
			}
			swapped := slices.Clone(places)
			swapped[i], swapped[j] = b, a
			isHouse(t, "two of all changed", at(swapped...), i == j)
			twice := slices.Clone(places)
			twice[i] = b
			isHouse(t, "a place twice", at(twice...), i == j)
		}
	}
	// The Outs need no order but that of their Gens.
	var k kept
	for n, p := range places {
		k.outs = append(k.outs, outOf{0, measured{p[0], p[1], []int{n + 1}, nil}})
	}
	slices.Reverse(k.outs)
	isHouse(t, "Outs in reverse", houseOf(someConf(), k), true)
}

func TestMergedIsWhatLeftTheRows(t *testing.T) {
	for agent := range 3 {
		for n := -3; n <= 61; n++ {
			h := changedHouse(someHouse(), func(h *impl.House) { h.Seats[agent].Merged = n })
			isHouse(t, "Merged "+impl.Digits(n), h, n == someHouse().Seats[agent].Merged)
		}
	}
	for in := range 4 {
		for others := range 4 {
			// so many of an agent in the root and in the Outs, and some others in rows
			var k kept
			for n := range in {
				k = k.puts(spot{"", -1, inRoot}, measured{2, n, []int{101 + 2*n}, nil}).puts(spot{"", -1, inOuts}, measured{2, 2, []int{102 + 2*n}, nil})
			}
			for n := range others {
				k = k.puts(spot{"", 1, n % 2}, measured{2, n, []int{101 + 2*in + n}, nil}).puts(spot{"", -1, inRoot}, measured{3, n, []int{1 + n, 201 + n}, nil})
			}
			h := houseOf(someConf(), k)
			for merged := -1; merged <= 2*in+others+1; merged++ {
				h.Seats[1].Merged, h.Seats[1].Granted = merged, min(60, max(merged, 0)+8)
				isHouse(t, "Merged "+impl.Digits(merged), h, merged == 2*in)
			}
		}
	}
	// As many in all, but of one agent too many and of another too few.
	isHouse(t, "of one for another", changedHouse(someHouse(), func(h *impl.House) { h.Seats[0].Merged++; h.Seats[1].Merged-- }), false)
}

func TestGens(t *testing.T) {
	gens := func(list ...int) impl.House {
		var k kept
		for n, gen := range list {
			k.outs = append(k.outs, outOf{gen, measured{2, 3, []int{101 + n}, nil}})
		}
		return houseOf(someConf(), k)
	}
	for _, x := range []struct {
		gens []int
		want bool
	}{
		{nil, true}, {[]int{0}, true}, {[]int{0, 1}, true}, {[]int{0, 1, 2}, true}, {[]int{0, 1, 2, 3, 4, 5, 6, 7}, true},
		{[]int{1}, false}, {[]int{-1}, false}, {[]int{2}, false}, {[]int{1, 2}, false}, {[]int{1, 2, 3}, false}, {[]int{0, 0}, false}, {[]int{1, 1}, false},
		{[]int{1, 0}, false}, {[]int{0, 2, 1}, false}, {[]int{1, 0, 2}, false}, {[]int{2, 1, 0}, false}, {[]int{0, 2}, false}, {[]int{0, 1, 3}, false},
		{[]int{0, 1, 1}, false}, {[]int{0, 0, 1}, false}, {[]int{0, 1, 1, 2}, false}, {[]int{0, 1, 2, 2}, false}, {[]int{0, 1, 0}, false},
		{[]int{0, -1}, false}, {[]int{0, math.MaxInt}, false}, {[]int{math.MinInt}, false},
	} {
		isHouse(t, "Gens", gens(x.gens...), x.want)
	}
	for _, list := range append(triples(-1, 0, 1, 2, 3), triples(0, 1, 2)...) {
		isHouse(t, "Gens", gens(list...), slices.Equal(list, []int{0, 1, 2}))
	}
	// Each key and window counts by itself, however they stand among each other.
	places := [][2]int{{2, 3}, {2, 4}, {3, 3}, {3, 2}}
	for _, order := range orders([]int{0, 0, 1, 1, 2, 3}) {
		var k kept
		told := map[int]int{}
		for n, p := range order {
			k.outs = append(k.outs, outOf{told[p], measured{places[p][0], places[p][1], []int{101 + n}, nil}})
			told[p]++
		}
		isHouse(t, "Gens among each other", houseOf(someConf(), k), true)
		for n := range order {
			h := houseOf(someConf(), k)
			h.Outs[n].Gen = n
			isHouse(t, "Gens by their place", h, n == k.outs[n].gen)
			h.Outs[n].Gen = k.outs[n].gen + 1
			isHouse(t, "one Gen more", h, false)
		}
	}
	// What is in the root was not told yet, and does not count.
	isHouse(t, "root and Out of a place", houseOf(someConf(), kept{root: []measured{{2, 3, []int{1}, nil}}, outs: []outOf{{0, measured{2, 3, []int{2}, nil}}}}), true)
	isHouse(t, "root, and Out with Gen 1", houseOf(someConf(), kept{root: []measured{{2, 3, []int{1}, nil}}, outs: []outOf{{1, measured{2, 3, []int{2}, nil}}}}), false)
}

func TestItems(t *testing.T) {
	rows := func(list ...[]impl.Row) impl.House { return impl.House{Rows: list} }
	full, one, none := rowOf(longMeasured(24)), rowOf(longMeasured(1)), impl.Row{}
	for _, x := range []struct {
		h    impl.House
		want int
	}{
		{impl.House{}, 0}, {rows(), 0}, {rows(nil, nil, nil), 0}, {rows([]impl.Row{}, []impl.Row{none}), 0}, {newHouse(someConf()), 0},
		{rows([]impl.Row{one}), 1}, {rows(nil, []impl.Row{none, one}), 1}, {rows([]impl.Row{none, none}, []impl.Row{none, none}, []impl.Row{none, one}), 1},
		{rows([]impl.Row{full, full}, []impl.Row{full, full}, []impl.Row{full, full}), 144},
		{rows([]impl.Row{full, one}, []impl.Row{one, full}, []impl.Row{none, full}), 74},
		// what is no house's rows is counted as it stands
		{rows([]impl.Row{one, one, one}, []impl.Row{one}, nil, []impl.Row{one, full}), 29},
		{rows([]impl.Row{rowOf(longMeasured(25)), {List: make([]impl.Entry, 100)}}), 125},
		{someHouse(), 9}, {houseOf(someConf(), someKept()), 9}, {fullHouse(), 0}, {rootHouse(), 1},
		// one entry counts once, however many numbers it has
		{changedHouse(someHouse(), func(h *impl.House) { h.Rows[0][0].List[0].Ids = spanList(0, 9999) }), 9},
		{changedHouse(someHouse(), func(h *impl.House) { h.Root, h.Outs = nil, nil }), 9},
		{changedHouse(someHouse(), func(h *impl.House) { h.Conf, h.Seats, h.Turns, h.Clock = impl.Conf{}, nil, nil, -1 }), 9},
		{changedHouse(someHouse(), func(h *impl.House) { h.Rows[1] = nil }), 6},
	} {
		if got := impl.Items(x.h); got != x.want {
			t.Errorf("Items(%v) = %d, want %d", x.h, got, x.want)
		}
	}
	for agent := range 3 {
		for class := range 2 {
			for n := range 30 {
				h := changedHouse(someHouse(), func(h *impl.House) { h.Rows[agent][class] = rowOf(longMeasured(n)) })
				if got, want := impl.Items(h), 9-len(someKept().rows[agent][class])+n; got != want {
					t.Errorf("Items with %d in row %d of %d = %d, want %d", n, class, agent, got, want)
				}
			}
		}
	}
}

// TestEachThingIsInOnePlace: things are taken, joined, added up and told; the house is right behind each step, and no step is right that was done by half.
func TestEachThingIsInOnePlace(t *testing.T) {
	for start := range 40 {
		draw := drawing(start)
		c := changedConf(someConf(), func(c *impl.Conf) { c.Per = 1 + start%8 })
		var k kept
		for step := range 150 {
			next, moved := k.step(draw, c.Per)
			before, after := houseOf(c, k), houseOf(c, next)
			isHouse(t, "step "+impl.Digits(step), after, true)
			if got, want := impl.Items(after), len(next.waiting()); got != want {
				t.Fatalf("Items = %d, want %d", got, want)
			}
			if same := impl.HouseSame(before, after); same != exactHouse(before, after) || same && moved {
				t.Fatalf("HouseSame(%v, %v) = %v", before, after, same)
			}
			if moved {
				isHouse(t, "places without seats", changedHouse(after, func(h *impl.House) { h.Seats = before.Seats }), false)
				isHouse(t, "seats without places", changedHouse(before, func(h *impl.House) { h.Seats = after.Seats }), false)
			}
			k = next
		}
	}
}

// step: an agent's number is taken, or the first entry of a row is added up, or the first of the root, then, is told; moved tells whether the seats have a part in it.
func (k kept) step(draw func(int) int, per int) (kept, bool) {
	agent, class := draw(3), draw(2)
	row := k.rows[agent][class]
	taken := append(seqsOf(agent, k.added()), seqsOf(agent, k.waiting())...)
	if granted := min(60, len(seqsOf(agent, k.added()))+per); draw(2) == 0 {
		for seq := 1; seq <= granted; seq++ {
			if !slices.Contains(taken, seq) {
				m := measured{draw(5), draw(21), []int{100*agent + seq}, []int{draw(1000)}}
				row, _ = pushing(row, m, draw(2) == 0)
				k.rows[agent][class] = row
				return k, true
			}
		}
	}
	if len(row) > 0 {
		k.rows[agent][class] = row[1:]
		return k.puts(spot{"", -1, inRoot}, row[0]), true
	}
	if len(k.root) > 0 && draw(3) == 0 {
		m := k.root[0]
		k.root = k.root[1:]
		k = k.puts(spot{"", -1, inOuts}, m)
		// Telling moves nothing that a seat knows of: half of it is not tried by the seats.
		return k, false
	}
	return k, false
}

// turnsOfAllSorts: small changes of a house, right or wrong.
func turnsOfAllSorts() []func(h *impl.House, draw func(int) int) {
	entry := func(h *impl.House, draw func(int) int) *impl.Entry {
		all := everyEntry(*h)
		if len(all) == 0 {
			return &impl.Entry{}
		}
		return all[draw(len(all))](h)
	}
	some := func(h *impl.House, draw func(int) int) *impl.Seat { return &h.Seats[draw(3)] }
	return []func(h *impl.House, draw func(int) int){
		func(h *impl.House, draw func(int) int) { some(h, draw).Merged += draw(3) - 1 },
		func(h *impl.House, draw func(int) int) { some(h, draw).Granted += draw(3) - 1 },
		func(h *impl.House, draw func(int) int) { some(h, draw).Epoch = draw(1003) - 1 },
		func(h *impl.House, draw func(int) int) { h.Since = draw(1003) - 1 },
		func(h *impl.House, draw func(int) int) {
			s := some(h, draw)
			s.Taken = stretches(append(numbersOf(s.Taken), 1+draw(60)))
		},
		func(h *impl.House, draw func(int) int) {
			s, seq := some(h, draw), 1+draw(60)
			s.Taken = stretches(slices.DeleteFunc(numbersOf(s.Taken), func(n int) bool { return n == seq }))
		},
		func(h *impl.House, draw func(int) int) {
			e := entry(h, draw)
			e.Ids = stretches(append(numbersOf(e.Ids), draw(3)*100+draw(62)))
		},
		func(h *impl.House, draw func(int) int) {
			if e := entry(h, draw); len(e.Ids) > 0 {
				e.Ids = stretches(numbersOf(e.Ids)[draw(2):])
			}
		},
		// one number from one entry to another
		func(h *impl.House, draw func(int) int) {
			from, to := entry(h, draw), entry(h, draw)
			if list := numbersOf(from.Ids); len(list) > 0 {
				from.Ids, to.Ids = stretches(list[1:]), stretches(append(numbersOf(to.Ids), list[0]))
			}
		},
		// two entries change their Ids, or all but these
		func(h *impl.House, draw func(int) int) {
			a, b := entry(h, draw), entry(h, draw)
			a.Ids, b.Ids = b.Ids, a.Ids
		},
		func(h *impl.House, draw func(int) int) {
			a, b := entry(h, draw), entry(h, draw)
			a.Key, b.Key, a.Window, b.Window = b.Key, a.Key, b.Window, a.Window
		},
		func(h *impl.House, draw func(int) int) { entry(h, draw).Key = draw(6) },
		func(h *impl.House, draw func(int) int) { entry(h, draw).Window = draw(22) },
		func(h *impl.House, draw func(int) int) {
			if len(h.Outs) > 1 {
				i, j := draw(len(h.Outs)), draw(len(h.Outs))
				h.Outs[i], h.Outs[j] = h.Outs[j], h.Outs[i]
			}
		},
		func(h *impl.House, draw func(int) int) {
			if len(h.Outs) > 0 {
				h.Outs[draw(len(h.Outs))].Gen += draw(3) - 1
			}
		},
		func(h *impl.House, draw func(int) int) {
			if len(h.Root) > 1 {
				k := draw(len(h.Root) - 1)
				h.Root[k], h.Root[k+1] = h.Root[k+1], h.Root[k]
			}
		},
		// the rows of an agent, or of two, changed for each other
		func(h *impl.House, draw func(int) int) {
			rows := h.Rows[draw(3)]
			rows[0], rows[1] = rows[1], rows[0]
		},
		func(h *impl.House, draw func(int) int) {
			a, b := draw(3), draw(3)
			h.Rows[a], h.Rows[b] = h.Rows[b], h.Rows[a]
		},
		func(h *impl.House, draw func(int) int) {
			a, b := draw(3), draw(3)
			h.Rows[a][0], h.Rows[b][1] = h.Rows[b][1], h.Rows[a][0]
		},
		// from a row to the root or the Outs, or to another row
		func(h *impl.House, draw func(int) int) {
			if r := &h.Rows[draw(3)][draw(2)]; len(r.List) > 0 {
				e := r.List[0]
				r.List = r.List[1:]
				switch to := &h.Rows[draw(3)][draw(2)]; draw(3) {
				case 0:
					to.List = append(to.List, e)
				case 1:
					h.Root = append(h.Root, e)
				default:
					h.Outs = append(h.Outs, impl.Out{Entry: e})
				}
			}
		},
		func(h *impl.House, draw func(int) int) {
			if len(h.Root) > 0 {
				h.Outs, h.Root = append(h.Outs, impl.Out{Gen: draw(2), Entry: h.Root[0]}), h.Root[1:]
			}
		},
	}
}

// TestHouseOkThroughALongMix holds it against words of its own, where one or two things or more are turned.
func TestHouseOkThroughALongMix(t *testing.T) {
	bases, turns := append(goodHouses()[:7], houseOf(someConf(), someKept())), turnsOfAllSorts()
	told := map[bool]int{}
	for start := range 6000 {
		draw := drawing(start)
		h := twinHouse(bases[draw(len(bases))])
		for range 1 + draw(3) {
			turns[draw(len(turns))](&h, draw)
		}
		want := rightHouse(h)
		if got := impl.HouseOk(h); got != want {
			t.Fatalf("%d: HouseOk = %v, want %v, of %v", start, got, want, h)
		}
		told[want]++
	}
	if told[true] < 200 || told[false] < 1000 {
		t.Errorf("the mix told %v", told)
	}
}

// housesOfAllSorts: good ones, and some that are wrong in one thing or have no such shape.
func housesOfAllSorts() []impl.House {
	all := append(goodHouses(), impl.House{}, impl.House{Clock: -1}, impl.House{Conf: someConf()}, impl.House{Seats: make([]impl.Seat, 5)})
	all = append(all, impl.House{Rows: [][]impl.Row{nil, {{}}, {{}, rowOf(longMeasured(30)), {}}, {}}}, impl.House{Turns: make([]impl.Turn, 4), Root: make([]impl.Entry, 3)})
	all = append(all, impl.House{Outs: []impl.Out{{Gen: -7}, {Gen: 4, Entry: someEntry()}}, Root: []impl.Entry{someEntry(), someEntry()}})
	for _, turn := range partTurns() {
		all = append(all, changedHouse(someHouse(), turn))
	}
	return all
}

// partTurns: one for each part of a house such as someHouse.
func partTurns() []func(*impl.House) {
	var turns []func(*impl.House)
	for _, p := range confParts() {
		turns = append(turns, func(h *impl.House) { *p.of(&h.Conf)++ })
	}
	for at := range 3 {
		turns = append(turns, func(h *impl.House) { h.Conf.Weights[at]++ },
			func(h *impl.House) { h.Seats[at].Epoch++ }, func(h *impl.House) { h.Seats[at].Granted++ }, func(h *impl.House) { h.Seats[at].Taken[0].Lo++ },
			func(h *impl.House) { h.Seats[at].Taken[0].Hi++ }, func(h *impl.House) { h.Seats[at].Taken = nil }, func(h *impl.House) { h.Seats[at].Merged++ },
			func(h *impl.House) { h.Seats[at].Last++ }, func(h *impl.House) { h.Turns[0].Left[at]++ }, func(h *impl.House) { h.Turns[1].Left[at]++ },
			func(h *impl.House) { h.Rows[at] = h.Rows[at][:1] }, func(h *impl.House) { h.Rows[at] = append(h.Rows[at], impl.Row{}) },
			func(h *impl.House) { h.Rows[at][0].List = nil }, func(h *impl.House) { h.Rows[at][1].List = nil },
			func(h *impl.House) { h.Rows[at][0], h.Rows[at][1] = h.Rows[at][1], h.Rows[at][0] })
	}
	for at := range 2 {
		turns = append(turns, func(h *impl.House) { h.Turns[at].At-- }, func(h *impl.House) { h.Turns[at].Fresh = !h.Turns[at].Fresh }, func(h *impl.House) { h.Turns[at].Left = nil })
	}
	for _, find := range everyEntry(someHouse()) {
		turns = append(turns, func(h *impl.House) { find(h).Key++ }, func(h *impl.House) { find(h).Window++ }, func(h *impl.House) { find(h).Ids[0].Lo-- },
			func(h *impl.House) { find(h).Ids[0].Hi++ }, func(h *impl.House) { find(h).Sketch.Sum++ }, func(h *impl.House) { find(h).Sketch.Rows[1][3]++ },
			func(h *impl.House) { *find(h) = impl.Entry{} })
	}
	for at := range 6 {
		turns = append(turns, func(h *impl.House) { h.Outs[at].Gen++ }, func(h *impl.House) { h.Outs[at].Gen-- })
	}
	return append(turns, func(h *impl.House) { h.Clock++ }, func(h *impl.House) { h.Closed = !h.Closed }, func(h *impl.House) { h.Since++ },
		func(h *impl.House) { h.Conf.Weights = h.Conf.Weights[:2] }, func(h *impl.House) { h.Conf.Weights = nil }, func(h *impl.House) { h.Conf.Weights = append(h.Conf.Weights, 0) },
		func(h *impl.House) { h.Seats = h.Seats[:2] }, func(h *impl.House) { h.Seats = append(h.Seats, impl.Seat{}) }, func(h *impl.House) { h.Seats = nil },
		func(h *impl.House) { h.Rows = h.Rows[:2] }, func(h *impl.House) { h.Rows = append(h.Rows, nil) }, func(h *impl.House) { h.Rows = nil },
		func(h *impl.House) { h.Turns = h.Turns[:1] }, func(h *impl.House) { h.Turns = append(h.Turns, impl.Turn{}) }, func(h *impl.House) { h.Turns = nil },
		func(h *impl.House) { h.Root = h.Root[:3] }, func(h *impl.House) { h.Root = append(h.Root, impl.Entry{}) }, func(h *impl.House) { h.Root = nil },
		func(h *impl.House) { h.Outs = h.Outs[:5] }, func(h *impl.House) { h.Outs = append(h.Outs, impl.Out{}) }, func(h *impl.House) { h.Outs = nil },
		func(h *impl.House) { slices.Reverse(h.Seats) }, func(h *impl.House) { slices.Reverse(h.Rows) }, func(h *impl.House) { slices.Reverse(h.Turns) },
		func(h *impl.House) { slices.Reverse(h.Root) }, func(h *impl.House) { slices.Reverse(h.Outs) }, func(h *impl.House) { slices.Reverse(h.Conf.Weights) })
}

func TestHouseSame(t *testing.T) {
	all := housesOfAllSorts()
	for i, a := range all {
		if !impl.HouseSame(a, a) || !impl.HouseSame(a, twinHouse(a)) {
			t.Errorf("HouseSame of %v and a twin of it = false", a)
		}
		for j, b := range all[:i] {
			want := exactHouse(a, b)
			if impl.HouseSame(a, b) != want || impl.HouseSame(b, a) != want {
				t.Errorf("%d, %d: HouseSame(%v, %v) is not %v", i, j, a, b, want)
			}
		}
	}
}

func TestHouseSameTellsEachPart(t *testing.T) {
	for k, turn := range partTurns() {
		a, b := someHouse(), changedHouse(someHouse(), turn)
		if impl.HouseSame(a, b) || impl.HouseSame(b, a) || exactHouse(a, b) {
			t.Errorf("turn %d: HouseSame(%v, %v) = true", k, a, b)
		}
	}
}

// emptied has an empty list wherever h has nil, and nil wherever it has an empty one.
func emptied(h impl.House) impl.House {
	h = twinHouse(h)
	for k := range h.Seats {
		h.Seats[k].Taken = otherEmpty(h.Seats[k].Taken)
	}
	for k := range h.Rows {
		for c := range h.Rows[k] {
			h.Rows[k][c].List = otherEmpty(h.Rows[k][c].List)
		}
		h.Rows[k] = otherEmpty(h.Rows[k])
	}
	for k := range h.Turns {
		h.Turns[k].Left = otherEmpty(h.Turns[k].Left)
	}
	h.Conf.Weights, h.Seats, h.Rows, h.Turns = otherEmpty(h.Conf.Weights), otherEmpty(h.Seats), otherEmpty(h.Rows), otherEmpty(h.Turns)
	h.Root, h.Outs = otherEmpty(h.Root), otherEmpty(h.Outs)
	return h
}

func otherEmpty[T any](list []T) []T {
	if len(list) > 0 {
		return list
	}
	if list == nil {
		return []T{}
	}
	return nil
}

func TestEmptyListsOfAHouse(t *testing.T) {
	for _, h := range housesOfAllSorts() {
		for _, other := range []impl.House{emptied(h), emptied(emptied(h))} {
			if !impl.HouseSame(h, other) || !impl.HouseSame(other, h) {
				t.Errorf("an empty list and nil are not the same: %v", h)
			}
			if impl.HouseOk(h) != impl.HouseOk(other) || impl.Items(h) != impl.Items(other) {
				t.Errorf("an empty list and nil are told of as different: %v", h)
			}
		}
	}
	isHouse(t, "empty lists", emptied(newHouse(someConf())), true)
	if impl.HouseSame(impl.House{}, impl.House{Seats: make([]impl.Seat, 1)}) || impl.HouseSame(impl.House{}, impl.House{Rows: make([][]impl.Row, 1)}) ||
		impl.HouseSame(impl.House{Rows: make([][]impl.Row, 1)}, impl.House{Rows: [][]impl.Row{{{}}}}) {
		t.Error("noughts and nothing are the same")
	}
}

// roomyList gives a list spare room with that mark in it.
func roomyList[T any](list []T, mark T) []T {
	out := append(make([]T, 0, len(list)+2), list...)
	return append(out, mark, mark)[:len(list)]
}

// stillRoomy: the room that roomyList gave has its marks still.
func stillRoomy[T any](list []T, isMark func(T) bool) bool {
	behind := list[len(list):cap(list)]
	return len(behind) >= 2 && isMark(behind[0]) && isMark(behind[1])
}

// roomyHouse gives every list of a house spare room with a mark in it.
func roomyHouse(h impl.House) impl.House {
	h = twinHouse(h)
	h.Conf.Weights = spare(h.Conf.Weights)
	for k, s := range h.Seats {
		h.Seats[k] = roomySeat(s)
	}
	for k, rows := range h.Rows {
		for c, r := range rows {
			rows[c] = roomyRow(r)
		}
		h.Rows[k] = roomyList(rows, impl.Row{List: []impl.Entry{spareEntry}})
	}
	for k := range h.Turns {
		h.Turns[k].Left = spare(h.Turns[k].Left)
	}
	for k, e := range h.Root {
		h.Root[k] = roomyEntry(e)
	}
	for k, x := range h.Outs {
		h.Outs[k].Entry = roomyEntry(x.Entry)
	}
	h.Seats, h.Rows, h.Turns = roomyList(h.Seats, impl.Seat{Epoch: spareMark}), roomyList(h.Rows, []impl.Row{{}}), roomyList(h.Turns, impl.Turn{At: spareMark})
	h.Root, h.Outs = roomyList(h.Root, spareEntry), roomyList(h.Outs, impl.Out{Gen: spareMark})
	return h
}

// houseAsGiven: the house is as it was, and so is the room behind its lists.
func houseAsGiven(h, was impl.House) bool {
	if !exactHouse(h, was) || !spareAsGiven(h.Conf.Weights) {
		return false
	}
	for k, s := range h.Seats {
		if !seatAsGiven(s, was.Seats[k]) {
			return false
		}
	}
	for k, rows := range h.Rows {
		for c, r := range rows {
			if !rowAsGiven(r, was.Rows[k][c]) {
				return false
			}
		}
		if !stillRoomy(rows, func(r impl.Row) bool { return exactRow(r, impl.Row{List: []impl.Entry{spareEntry}}) }) {
			return false
		}
	}
	for _, x := range h.Turns {
		if !spareAsGiven(x.Left) {
			return false
		}
	}
	for k, x := range h.Outs {
		if !entryAsGiven(x.Entry, was.Outs[k].Entry) {
			return false
		}
	}
	return slices.EqualFunc(h.Root, was.Root, entryAsGiven) &&
		stillRoomy(h.Seats, func(s impl.Seat) bool { return exactSeat(s, impl.Seat{Epoch: spareMark}) }) &&
		stillRoomy(h.Rows, func(rows []impl.Row) bool { return len(rows) == 1 && rows[0].List == nil }) &&
		stillRoomy(h.Turns, func(x impl.Turn) bool { return exactTurn(x, impl.Turn{At: spareMark}) }) &&
		stillRoomy(h.Root, func(e impl.Entry) bool { return exactEntry(e, spareEntry) }) &&
		stillRoomy(h.Outs, func(x impl.Out) bool { return exactOut(x, impl.Out{Gen: spareMark}) })
}

func spareAsGiven(list []int) bool {
	return !slices.ContainsFunc(list[len(list):cap(list)], func(n int) bool { return n != spareMark }) && cap(list) >= len(list)+3
}

// scribbleHouse writes over all lists of an answer and the room behind them, and tells whether each was its own.
func scribbleHouse(h impl.House) bool {
	was := twinHouse(h)
	own := true
	scribbled := func(ok bool) { own = own && ok }
	for k := range h.Conf.Weights[:cap(h.Conf.Weights)] {
		h.Conf.Weights[:cap(h.Conf.Weights)][k] = -555
	}
	for k, x := range h.Turns {
		scribbled(exactTurn(x, was.Turns[k]))
		scribbleTurn(x)
	}
	for k, s := range h.Seats {
		scribbled(exactSeat(s, was.Seats[k]))
		overwrite(s.Taken)
	}
	for k, rows := range h.Rows {
		scribbled(slices.EqualFunc(rows, was.Rows[k], exactRow))
		for c := range rows {
			scribbled(scribbleEntries(rows[c].List))
		}
		rows = rows[:cap(rows)]
		for c := range rows {
			rows[c] = impl.Row{List: []impl.Entry{{Key: -1000}}}
		}
	}
	scribbled(slices.EqualFunc(h.Root, was.Root, exactEntry) && scribbleEntries(h.Root))
	for k, x := range h.Outs {
		scribbled(exactOut(x, was.Outs[k]) && scribbleEntry(x.Entry))
	}
	overwriteAll(h.Seats, impl.Seat{Epoch: -1000})
	overwriteAll(h.Rows, nil)
	overwriteAll(h.Turns, impl.Turn{At: -1000})
	overwriteAll(h.Outs, impl.Out{Gen: -1000})
	return own
}

func overwriteAll[T any](list []T, mark T) {
	list = list[:cap(list)]
	for k := range list {
		list[k] = mark
	}
}

func TestHouseNewSharesNothing(t *testing.T) {
	confs := goodConfs()
	for _, c := range badConfs() {
		confs = append(confs, c)
	}
	for _, c := range confs {
		given := c
		given.Weights = spare(c.Weights)
		impl.ConfOk(given)
		h, ok := impl.HouseNew(given)
		again, _ := impl.HouseNew(given)
		was := twinHouse(again)
		if !exactConf(given, c) || !spareAsGiven(given.Weights) {
			t.Fatalf("HouseNew(%v) wrote into it", c)
		}
		if !scribbleHouse(h) || !exactConf(given, c) || !spareAsGiven(given.Weights) || !exactHouse(again, was) {
			t.Fatalf("HouseNew(%v), which tells %v: the answer shares memory", c, ok)
		}
		if third, _ := impl.HouseNew(given); !exactHouse(third, was) {
			t.Fatalf("HouseNew(%v), asked again behind an answer that was written into = %v", c, third)
		}
	}
}

func TestAskingLeavesTheHouse(t *testing.T) {
	for _, x := range housesOfAllSorts() {
		h, other := roomyHouse(x), roomyHouse(someHouse())
		first, second, third := impl.HouseOk(h), impl.Items(h), impl.HouseSame(h, other)
		impl.HouseSame(other, h)
		impl.HouseSame(h, h)
		if !houseAsGiven(h, x) || !houseAsGiven(other, someHouse()) {
			t.Fatalf("asking wrote into %v", x)
		}
		if impl.HouseOk(h) != first || impl.Items(h) != second || impl.HouseSame(h, other) != third || first != impl.HouseOk(x) {
			t.Fatalf("asked again it tells another thing of %v", x)
		}
	}
}

// TestHouseOfSharedLists: lists that a house has more than once are told of as if each were its own.
func TestHouseOfSharedLists(t *testing.T) {
	h := newHouse(someConf())
	h.Rows[1], h.Rows[2] = h.Rows[0], h.Rows[0]
	h.Turns[1].Left, h.Conf.Weights = h.Turns[0].Left, []int{1, 1, 1}
	isHouse(t, "shared lists", h, true)
	one := rowOf([]measured{{2, 3, []int{1}, []int{5}}})
	h.Rows[0][0], h.Seats[0].Taken = one, spanList(1, 1)
	isHouse(t, "a row of three agents", h, false)
	h = newHouse(someConf())
	h.Rows[0][0], h.Rows[0][1], h.Seats[0].Taken = one, one, spanList(1, 1)
	isHouse(t, "both rows one", h, false)
	h.Rows[0][1] = impl.Row{}
	isHouse(t, "one row", h, true)
	h.Root, h.Seats[0].Merged = one.List, 1
	isHouse(t, "a row that is the root", h, false)
	h.Rows[0][0] = impl.Row{}
	isHouse(t, "the root alone", h, true)
}
