package tests

import (
	"math"
	"slices"
	"testing"

	"loop.example/g00491/impl"
)

// asked is what Pick is asked with.
type asked struct {
	sizes, weights []int
	quantum        int
	turn           impl.Turn
}

func exactTurn(a, b impl.Turn) bool {
	return a.At == b.At && a.Fresh == b.Fresh && slices.Equal(a.Left, b.Left)
}

// turnAt is a turn with these numbers left.
func turnAt(at int, fresh bool, left ...int) impl.Turn {
	return impl.Turn{At: at, Fresh: fresh, Left: left}
}

func firstTurn() impl.Turn { return turnAt(0, true, 0, 0, 0) }

func twinTurn(t impl.Turn) impl.Turn {
	t.Left = slices.Clone(t.Left)
	return t
}

// changedAsk is a twin with one thing turned.
func changedAsk(x asked, turn func(*asked)) asked {
	x.sizes, x.weights, x.turn = slices.Clone(x.sizes), slices.Clone(x.weights), twinTurn(x.turn)
	turn(&x)
	return x
}

// someAsk: the last agent is the one, and each agent has something left behind it.
func someAsk() asked {
	return asked{[]int{30, 0, 25}, []int{1, 2, 4}, 10, turnAt(1, false, 7, 9, 3)}
}

// fullAsk has every number at its limit.
func fullAsk() asked {
	return asked{[]int{200, 200, 200}, []int{4, 4, 4}, 60, turnAt(2, true, 1000, 1000, 1000)}
}

// leastAsk has every number at its least, but one size.
func leastAsk() asked {
	return asked{[]int{0, 0, 1}, []int{1, 1, 1}, 1, turnAt(0, false, 0, 0, 0)}
}

// begun is how many turns an agent that is so far ahead of At has begun when its turn comes again as often.
func (x asked) begun(ahead, again int) int {
	if ahead == 0 && !x.turn.Fresh {
		return again
	}
	return again + 1
}

// has is what the agent has left when it has begun so many turns and handed over nothing.
func (x asked) has(agent, turns int) int {
	return min(1000, x.turn.Left[agent]+turns*x.quantum*x.weights[agent])
}

// steps is how many turns, of whomever, go by ahead of the one at which the agent would hand over, were no one else there.
func (x asked) steps(ahead int) int {
	agent := (x.turn.At + ahead) % 3
	again := 0
	for x.has(agent, x.begun(ahead, again)) < x.sizes[agent] {
		again++
	}
	return ahead + 3*again
}

// picking is Pick as the document's words have it, of arguments that are right: not turn by turn, but by who is there with the fewest turns.
func picking(x asked) (int, impl.Turn) {
	if slices.Max(x.sizes) == 0 {
		return -1, firstTurn()
	}
	one, least := -1, math.MaxInt
	for ahead := range 3 {
		agent := (x.turn.At + ahead) % 3
		if x.sizes[agent] > 0 && x.steps(ahead) < least {
			one, least = agent, x.steps(ahead)
		}
	}
	after := impl.Turn{At: one, Left: slices.Clone(x.turn.Left)}
	for ahead := range 3 {
		agent := (x.turn.At + ahead) % 3
		switch {
		case ahead > least:
			// No turn came by it.
		case x.sizes[agent] == 0:
			after.Left[agent] = 0
		default:
			after.Left[agent] = x.has(agent, x.begun(ahead, (least-ahead)/3))
		}
	}
	after.Left[one] -= x.sizes[one]
	return one, after
}

// picks asks, holds the answer against the words, and hands it on.
func picks(t *testing.T, x asked) (int, impl.Turn) {
	t.Helper()
	k, after := impl.Pick(x.sizes, x.weights, x.quantum, x.turn)
	want, wantTurn := picking(x)
	if k != want || !exactTurn(after, wantTurn) || !impl.TurnOk(after) {
		t.Fatalf("Pick of %v = %d, %v, want %d, %v", x, k, after, want, wantTurn)
	}
	return k, after
}

// unpicked: nobody is picked, and the turn stays as it was.
func unpicked(t *testing.T, name string, x asked) {
	t.Helper()
	if k, after := impl.Pick(x.sizes, x.weights, x.quantum, x.turn); k != -1 || !exactTurn(after, x.turn) {
		t.Errorf("%s: Pick of %v = %d, %v, want -1, as it was", name, x, k, after)
	}
}

// triples: all lists of three of these numbers.
func triples(list ...int) [][]int {
	var all [][]int
	for _, a := range list {
		for _, b := range list {
			for _, c := range list {
				all = append(all, []int{a, b, c})
			}
		}
	}
	return all
}

func drawing(start int) func(n int) int {
	seed := uint32(start*7919 + 1)
	return func(n int) int {
		seed = seed*1664525 + 1013904223
		return int(seed>>8) % n
	}
}

// wrongLists: each of what makes a list of three numbers from least to most a wrong one.
func wrongLists(least, most int) map[string][]int {
	wrong := map[string][]int{
		"nil": nil, "none": {}, "one": {least}, "one too few": {least, most}, "one too many": {least, most, least, most},
		"twice as many": {least, least, least, least, least, least}, "one too many, of noughts": {0, 0, 0, 0}, "one too few, of noughts": {0, 0},
		"room for one more": []int{least, most, least, most}[:2],
	}
	for at := range 3 {
		for _, n := range []int{math.MinInt, -1000, -2, -1, least - 1, most + 1, most + 2, most + 1000, math.MaxInt - 1, math.MaxInt} {
			list := []int{most, least, most}
			list[at] = n
			wrong[impl.Digits(n)+" at "+impl.Digits(at)] = list
		}
	}
	return wrong
}

// badTurns: each is off in one thing.
func badTurns() map[string]impl.Turn {
	bad := map[string]impl.Turn{"zero": {}, "zero, but Fresh": {Fresh: true}, "zero, but At": {At: 2}}
	for _, fresh := range []bool{false, true} {
		name := "not Fresh"
		if fresh {
			name = "Fresh"
		}
		for _, at := range []int{math.MinInt, -3, -2, -1, 3, 4, 5, 6, math.MaxInt} {
			bad[name+", At "+impl.Digits(at)] = turnAt(at, fresh, 5, 0, 1000)
			bad[name+", of noughts, At "+impl.Digits(at)] = turnAt(at, fresh, 0, 0, 0)
		}
		for what, left := range wrongLists(0, 1000) {
			for at := range 3 {
				bad[name+", At "+impl.Digits(at)+", Left: "+what] = turnAt(at, fresh, left...)
			}
		}
	}
	return bad
}

// badAsks: each is off in one thing.
func badAsks() map[string]asked {
	bad := map[string]asked{}
	none := changedAsk(someAsk(), func(x *asked) { x.sizes = []int{0, 0, 0} })
	for name, x := range map[string]asked{"some": someAsk(), "full": fullAsk(), "least": leastAsk(), "none": none} {
		for what, list := range wrongLists(0, 200) {
			bad[name+": sizes: "+what] = changedAsk(x, func(x *asked) { x.sizes = list })
		}
		for what, list := range wrongLists(1, 4) {
			bad[name+": weights: "+what] = changedAsk(x, func(x *asked) { x.weights = list })
		}
		for _, n := range []int{math.MinInt, -60, -2, -1, 0, 61, 62, 120, math.MaxInt} {
			bad[name+": quantum "+impl.Digits(n)] = changedAsk(x, func(x *asked) { x.quantum = n })
		}
		for what, turn := range badTurns() {
			bad[name+": turn: "+what] = changedAsk(x, func(x *asked) { x.turn = turn })
		}
	}
	return bad
}

// goodAsks: of all sorts, at the limits and within them.
func goodAsks() []asked {
	all := []asked{someAsk(), fullAsk(), leastAsk()}
	for _, sizes := range triples(0, 6, 200) {
		for _, left := range triples(0, 6, 1000) {
			for at := range 3 {
				for _, fresh := range []bool{false, true} {
					all = append(all, asked{sizes, []int{4, 1, 2}, 5, turnAt(at, fresh, left...)})
				}
			}
		}
	}
	return all
}

func TestTurnConstants(t *testing.T) {
	if impl.MaxQuantum != 60 || impl.MaxWeight != 4 || impl.MaxQuota != 10 {
		t.Errorf("MaxQuantum, MaxWeight, MaxQuota = %d, %d, %d", impl.MaxQuantum, impl.MaxWeight, impl.MaxQuota)
	}
}

func TestTurnOk(t *testing.T) {
	for at := range 3 {
		for _, left := range triples(0, 1, 500, 999, 1000) {
			for _, fresh := range []bool{false, true} {
				if x := turnAt(at, fresh, left...); !impl.TurnOk(x) {
					t.Errorf("TurnOk(%v) = false", x)
				}
			}
		}
	}
	for name, x := range badTurns() {
		if impl.TurnOk(x) {
			t.Errorf("%s: TurnOk(%v) = true", name, x)
		}
	}
}

func TestTurnOkAtTheLimits(t *testing.T) {
	for n := -3; n <= 1003; n++ {
		for at := range 3 {
			left := []int{1, 2, 3}
			left[at] = n
			if x := turnAt(1, false, left...); impl.TurnOk(x) != (n >= 0 && n <= 1000) {
				t.Errorf("TurnOk(%v) = %v", x, impl.TurnOk(x))
			}
		}
		if x := turnAt(n, true, 1, 2, 3); impl.TurnOk(x) != (n >= 0 && n <= 2) {
			t.Errorf("TurnOk(%v) = %v", x, impl.TurnOk(x))
		}
	}
	for n := range 12 {
		if x := (impl.Turn{Left: make([]int, n)}); impl.TurnOk(x) != (n == 3) {
			t.Errorf("TurnOk(%v) = %v", x, impl.TurnOk(x))
		}
	}
}

func TestTurnNew(t *testing.T) {
	x := impl.TurnNew()
	if !exactTurn(x, firstTurn()) || !impl.TurnOk(x) {
		t.Errorf("TurnNew = %v", x)
	}
	for k := range x.Left[:cap(x.Left)] {
		x.Left[:cap(x.Left)][k] = 9
	}
	if again := impl.TurnNew(); !exactTurn(again, firstTurn()) {
		t.Errorf("TurnNew behind another that was written into = %v", again)
	}
}

// TestPick: what comes of an ask is written out here by hand.
func TestPick(t *testing.T) {
	even := []int{1, 1, 1}
	for name, x := range map[string]struct {
		ask   asked
		want  int
		after impl.Turn
	}{
		"Fresh, size below":                      {asked{[]int{4, 0, 0}, even, 5, firstTurn()}, 0, turnAt(0, false, 1, 0, 0)},
		"Fresh, size at it":                      {asked{[]int{5, 0, 0}, even, 5, firstTurn()}, 0, turnAt(0, false, 0, 0, 0)},
		"Fresh, size one above":                  {asked{[]int{6, 0, 0}, even, 5, firstTurn()}, 0, turnAt(0, false, 4, 0, 0)},
		"Fresh, Left at the size already":        {asked{[]int{6, 6, 6}, even, 5, turnAt(0, true, 6, 0, 0)}, 0, turnAt(0, false, 5, 0, 0)},
		"Fresh, Left above the size already":     {asked{[]int{6, 6, 6}, even, 5, turnAt(0, true, 7, 0, 0)}, 0, turnAt(0, false, 6, 0, 0)},
		"Fresh, Left is just enough":             {asked{[]int{6, 6, 6}, even, 5, turnAt(0, true, 1, 9, 9)}, 0, turnAt(0, false, 0, 9, 9)},
		"Fresh, Left is not enough":              {asked{[]int{6, 6, 6}, even, 5, turnAt(0, true, 0, 1, 9)}, 1, turnAt(1, false, 5, 0, 9)},
		"not Fresh, Left above the size":         {asked{[]int{6, 6, 6}, even, 5, turnAt(0, false, 7, 0, 0)}, 0, turnAt(0, false, 1, 0, 0)},
		"not Fresh, Left at the size":            {asked{[]int{6, 6, 6}, even, 5, turnAt(0, false, 6, 0, 0)}, 0, turnAt(0, false, 0, 0, 0)},
		"not Fresh, Left one below":              {asked{[]int{6, 6, 6}, even, 6, turnAt(0, false, 5, 0, 0)}, 1, turnAt(1, false, 5, 0, 0)},
		"not Fresh, nothing Left, alone":         {asked{[]int{6, 0, 0}, even, 5, turnAt(0, false, 0, 0, 0)}, 0, turnAt(0, false, 4, 0, 0)},
		"Fresh at none, next one's turn":         {asked{[]int{0, 5, 5}, even, 5, firstTurn()}, 1, turnAt(1, false, 0, 0, 0)},
		"not Fresh at none, the next is":         {asked{[]int{0, 5, 5}, even, 5, turnAt(0, false, 0, 0, 0)}, 1, turnAt(1, false, 0, 0, 0)},
		"Fresh at none that has something Left":  {asked{[]int{0, 5, 5}, even, 5, turnAt(0, true, 80, 0, 0)}, 1, turnAt(1, false, 0, 0, 0)},
		"at none that has something Left":        {asked{[]int{0, 5, 5}, even, 5, turnAt(0, false, 80, 0, 0)}, 1, turnAt(1, false, 0, 0, 0)},
		"none further on that has something":     {asked{[]int{5, 0, 5}, even, 5, turnAt(0, true, 0, 80, 3)}, 0, turnAt(0, false, 0, 80, 3)},
		"none behind that has something":         {asked{[]int{0, 5, 5}, even, 5, turnAt(1, true, 80, 0, 3)}, 1, turnAt(1, false, 80, 0, 3)},
		"none behind, come by in another round":  {asked{[]int{0, 6, 6}, even, 5, turnAt(1, true, 80, 0, 0)}, 1, turnAt(1, false, 0, 4, 5)},
		"none between two, the first has Left":   {asked{[]int{5, 0, 5}, even, 5, turnAt(0, false, 5, 80, 3)}, 0, turnAt(0, false, 0, 80, 3)},
		"none between two, the first has none":   {asked{[]int{5, 0, 5}, even, 5, turnAt(0, false, 4, 80, 3)}, 2, turnAt(2, false, 4, 0, 3)},
		"the last one's turn, comes the first":   {asked{[]int{5, 5, 5}, even, 5, turnAt(2, false, 0, 0, 0)}, 0, turnAt(0, false, 0, 0, 0)},
		"the last one has none, comes the first": {asked{[]int{5, 5, 0}, even, 5, turnAt(2, true, 0, 0, 80)}, 0, turnAt(0, false, 0, 0, 0)},
		"the last one's turn, it is the one":     {asked{[]int{5, 5, 5}, even, 5, turnAt(2, true, 7, 7, 0)}, 2, turnAt(2, false, 7, 7, 0)},
		"the last one alone, from the first on":  {asked{[]int{0, 0, 5}, even, 5, turnAt(0, false, 7, 7, 0)}, 2, turnAt(2, false, 0, 0, 0)},
		"the first one alone, behind its turn":   {asked{[]int{5, 0, 0}, even, 5, turnAt(1, true, 0, 7, 7)}, 0, turnAt(0, false, 0, 0, 0)},
		"one alone, by its weight":               {asked{[]int{0, 19, 0}, []int{1, 4, 1}, 5, firstTurn()}, 1, turnAt(1, false, 0, 1, 0)},
		"one alone, several rounds":              {asked{[]int{0, 41, 0}, []int{1, 4, 1}, 5, firstTurn()}, 1, turnAt(1, false, 0, 19, 0)},
		"several rounds, all alike":              {asked{[]int{16, 16, 16}, even, 5, firstTurn()}, 0, turnAt(0, false, 4, 15, 15)},
		"several rounds, the second is there":    {asked{[]int{16, 15, 16}, even, 5, firstTurn()}, 1, turnAt(1, false, 15, 0, 10)},
		"several rounds, by weights":             {asked{[]int{40, 40, 40}, []int{1, 2, 3}, 5, firstTurn()}, 2, turnAt(2, false, 15, 30, 5)},
		"the greatest size, the least quantum":   {asked{[]int{200, 0, 0}, even, 1, firstTurn()}, 0, turnAt(0, false, 0, 0, 0)},
		"the greatest sizes, the least quantum":  {asked{[]int{200, 200, 200}, even, 1, turnAt(1, true, 0, 0, 0)}, 1, turnAt(1, false, 199, 0, 199)},
		"the greatest sizes, not Fresh":          {asked{[]int{200, 200, 200}, even, 1, turnAt(1, false, 0, 0, 0)}, 2, turnAt(2, false, 199, 199, 0)},
		"one that is great, one that is small":   {asked{[]int{200, 0, 3}, even, 1, firstTurn()}, 2, turnAt(2, false, 3, 0, 0)},
		"the greatest quantum and weight":        {asked{[]int{200, 0, 0}, []int{4, 1, 1}, 60, firstTurn()}, 0, turnAt(0, false, 40, 0, 0)},
		"up to 1000":                             {asked{[]int{1, 1, 1}, []int{4, 1, 1}, 60, turnAt(0, true, 760, 0, 0)}, 0, turnAt(0, false, 999, 0, 0)},
		"one that would pass 1000":               {asked{[]int{1, 1, 1}, []int{4, 1, 1}, 60, turnAt(0, true, 761, 0, 0)}, 0, turnAt(0, false, 999, 0, 0)},
		"one below 1000":                         {asked{[]int{1, 1, 1}, []int{4, 1, 1}, 60, turnAt(0, true, 759, 0, 0)}, 0, turnAt(0, false, 998, 0, 0)},
		"999 and 1":                              {asked{[]int{200, 1, 1}, even, 1, turnAt(0, true, 999, 0, 0)}, 0, turnAt(0, false, 800, 0, 0)},
		"999 and 2":                              {asked{[]int{200, 1, 1}, even, 2, turnAt(0, true, 999, 0, 0)}, 0, turnAt(0, false, 800, 0, 0)},
		"1000, Fresh":                            {asked{[]int{200, 1, 1}, even, 60, turnAt(0, true, 1000, 0, 0)}, 0, turnAt(0, false, 800, 0, 0)},
		"1000, not Fresh":                        {asked{[]int{200, 1, 1}, even, 60, turnAt(0, false, 1000, 0, 0)}, 0, turnAt(0, false, 800, 0, 0)},
		"1000 at each, not the one's turn":       {asked{[]int{200, 1, 1}, even, 60, turnAt(1, false, 1000, 1000, 1000)}, 1, turnAt(1, false, 1000, 999, 1000)},
		"some":                                   {someAsk(), 2, turnAt(2, false, 7, 0, 18)},
		"full":                                   {fullAsk(), 2, turnAt(2, false, 1000, 1000, 800)},
		"least":                                  {leastAsk(), 2, turnAt(2, false, 0, 0, 0)},
	} {
		k, after := impl.Pick(x.ask.sizes, x.ask.weights, x.ask.quantum, x.ask.turn)
		if k != x.want || !exactTurn(after, x.after) {
			t.Errorf("%s: Pick of %v = %d, %v, want %d, %v", name, x.ask, k, after, x.want, x.after)
		}
		picks(t, x.ask)
	}
}

func TestPickOfNone(t *testing.T) {
	for _, left := range triples(0, 5, 1000) {
		for at := range 3 {
			for _, fresh := range []bool{false, true} {
				for _, quantum := range []int{1, 60} {
					x := asked{[]int{0, 0, 0}, []int{1, 4, 2}, quantum, turnAt(at, fresh, left...)}
					if k, after := impl.Pick(x.sizes, x.weights, x.quantum, x.turn); k != -1 || !exactTurn(after, impl.TurnNew()) {
						t.Errorf("Pick of %v = %d, %v, want -1, TurnNew", x, k, after)
					}
				}
			}
		}
	}
}

func TestPickRefuses(t *testing.T) {
	for name, x := range badAsks() {
		unpicked(t, name, x)
	}
	for name, turn := range badTurns() {
		unpicked(t, "all of it, turn "+name, asked{nil, nil, 0, turn})
		unpicked(t, "sizes and turn "+name, asked{[]int{0, 0, 201}, []int{1, 1, 1}, 5, turn})
		unpicked(t, "weights of none and turn "+name, asked{[]int{0, 0, 0}, []int{1, 0, 1}, 5, turn})
	}
	for _, turn := range []impl.Turn{firstTurn(), turnAt(2, false, 1000, 5, 0)} {
		unpicked(t, "all but the turn", asked{nil, nil, 0, turn})
		unpicked(t, "sizes and weights", asked{[]int{0, 0}, []int{1, 1}, 5, turn})
		unpicked(t, "weights and quantum", asked{[]int{0, 0, 0}, []int{1, 1, 5}, 61, turn})
	}
}

func TestPickAtTheLimits(t *testing.T) {
	for n := -3; n <= 1003; n++ {
		for at := range 3 {
			for name, x := range map[string]struct {
				ask   asked
				right bool
			}{
				"size":          {changedAsk(someAsk(), func(x *asked) { x.sizes[at] = n }), n >= 0 && n <= 200},
				"size of none":  {changedAsk(someAsk(), func(x *asked) { x.sizes = make([]int, 3); x.sizes[at] = n }), n >= 0 && n <= 200},
				"weight":        {changedAsk(someAsk(), func(x *asked) { x.weights[at] = n }), n >= 1 && n <= 4},
				"Left":          {changedAsk(someAsk(), func(x *asked) { x.turn.Left[at] = n }), n >= 0 && n <= 1000},
				"quantum":       {changedAsk(someAsk(), func(x *asked) { x.turn.At, x.quantum = at, n }), n >= 1 && n <= 60},
				"At, not Fresh": {changedAsk(someAsk(), func(x *asked) { x.turn.At = n }), n >= 0 && n <= 2},
				"At, Fresh":     {changedAsk(someAsk(), func(x *asked) { x.turn.At, x.turn.Fresh = n, true }), n >= 0 && n <= 2},
			} {
				if x.right {
					picks(t, x.ask)
				} else {
					unpicked(t, name+" "+impl.Digits(n)+" at "+impl.Digits(at), x.ask)
				}
			}
		}
	}
}

// TestPickOfAllSorts: sizes and what is left below, at and above each other, at each place.
func TestPickOfAllSorts(t *testing.T) {
	for _, weights := range [][]int{{1, 1, 1}, {1, 2, 4}, {4, 1, 3}} {
		for _, quantum := range []int{1, 7, 60} {
			for _, sizes := range triples(0, 1, 20, 200) {
				for _, left := range triples(0, 19, 20, 1000) {
					for at := range 3 {
						picks(t, asked{sizes, weights, quantum, turnAt(at, false, left...)})
						picks(t, asked{sizes, weights, quantum, turnAt(at, true, left...)})
					}
				}
			}
		}
	}
}

func TestPickOfAnyNumbers(t *testing.T) {
	draw := drawing(5)
	size := func() int { return draw(201) * min(1, draw(4)) }
	for range 60000 {
		picks(t, asked{
			[]int{size(), size(), size()},
			[]int{1 + draw(4), 1 + draw(4), 1 + draw(4)},
			1 + draw(60),
			turnAt(draw(3), draw(2) == 0, draw(1001), draw(150), draw(1001)/(1+draw(9))),
		})
	}
}

// tries: the sizes, weights and quantums that the runs of picks below go through.
func tries() []asked {
	var all []asked
	for _, sizes := range append(triples(0, 10, 33), []int{200, 200, 200}, []int{1, 200, 50}, []int{200, 1, 1}, []int{0, 1, 200}, []int{1, 1, 1}) {
		for _, weights := range [][]int{{1, 1, 1}, {1, 2, 4}, {4, 4, 1}, {2, 1, 3}} {
			for _, quantum := range []int{1, 10, 33, 60} {
				all = append(all, asked{sizes, weights, quantum, impl.TurnNew()})
			}
		}
	}
	return all
}

// TestEachBeginsAsManyTurns: picks one after another, as long as all have something; what an agent has handed over and has left is what its turns gave it.
func TestEachBeginsAsManyTurns(t *testing.T) {
	for _, x := range tries() {
		handed, x0 := []int{0, 0, 0}, x
		for range 300 {
			k, after := picks(t, x)
			if k < 0 {
				break
			}
			handed[k] += x.sizes[k]
			x.turn = after
		}
		var turns []int
		for k, size := range x.sizes {
			share := x.quantum * x.weights[k]
			got := handed[k] + x.turn.Left[k]
			if size == 0 && got != 0 || got%share != 0 {
				t.Fatalf("of %v agent %d has handed over %d, and has %d left", x0, k, handed[k], x.turn.Left[k])
			}
			if k != x.turn.At && x.turn.Left[k] >= max(size, 1) {
				t.Fatalf("of %v agent %d has %d left behind its turn", x0, k, x.turn.Left[k])
			}
			if size > 0 {
				turns = append(turns, got/share)
			}
		}
		// Those behind the one whose turn it is are one turn behind it, and no one more.
		if len(turns) > 0 && (slices.Max(turns)-slices.Min(turns) > 1 || !slices.IsSortedFunc(turns, func(a, b int) int { return b - a })) {
			t.Fatalf("of %v the turns begun are %v", x0, turns)
		}
	}
}

// TestNobodyWaitsForLong: between two picks of one agent no other is picked more often than its turns in that time allow.
func TestNobodyWaitsForLong(t *testing.T) {
	for _, x := range tries() {
		var order []int
		for range 400 {
			k, after := picks(t, x)
			order, x.turn = append(order, k), after
		}
		for k, size := range x.sizes {
			if size == 0 {
				if slices.Contains(order, k) {
					t.Fatalf("of %v agent %d was picked", x, k)
				}
				continue
			}
			if wait := longestWait(order, k); wait > mostAhead(x, k) {
				t.Fatalf("of %v %d picks went by ahead of agent %d: at most %d are right", x, wait, k, mostAhead(x, k))
			}
		}
	}
}

// mostAhead is how many picks of others go by ahead of the one of this agent, at most: by the turns that it needs.
func mostAhead(x asked, agent int) int {
	share := x.quantum * x.weights[agent]
	turns := (x.sizes[agent] + share - 1) / share
	most := 0
	for k, size := range x.sizes {
		if k != agent && size > 0 {
			most += (size - 1 + turns*x.quantum*x.weights[k]) / size
		}
	}
	return most
}

// longestWait is how many picks in a row are of others, at most.
func longestWait(order []int, agent int) int {
	longest, since := 0, 0
	for _, k := range order {
		since++
		if k == agent {
			since = 0
		}
		longest = max(longest, since)
	}
	return longest
}

// TestByItsWeight: entries of one size that a turn of weight 1 just gives: each is picked as often in a row as its weight.
func TestByItsWeight(t *testing.T) {
	for _, weights := range triples(1, 2, 3, 4) {
		for _, quantum := range []int{1, 10, 50} {
			x := asked{[]int{quantum, quantum, quantum}, weights, quantum, impl.TurnNew()}
			for round := range 4 {
				for agent, times := range weights {
					for range times {
						k, after := picks(t, x)
						if k != agent {
							t.Fatalf("round %d of %v: picked %d, want %d", round, x, k, agent)
						}
						x.turn = after
					}
				}
			}
		}
	}
}

// TestOneAlone: it is picked each time, whoever's turn it was.
func TestOneAlone(t *testing.T) {
	for agent := range 3 {
		for _, size := range []int{1, 59, 60, 61, 200} {
			x := asked{make([]int, 3), []int{1, 2, 3}, 20, turnAt((agent+1)%3, false, 1000, 1000, 1000)}
			x.sizes[agent] = size
			for range 50 {
				k, after := picks(t, x)
				if k != agent || after.At != agent || after.Fresh {
					t.Fatalf("Pick of %v = %d, %v", x, k, after)
				}
				x.turn = after
			}
			for k, n := range x.turn.Left {
				if k != agent && n != 0 {
					t.Fatalf("agent %d, which has none, has %d left", k, n)
				}
			}
		}
	}
}

// TestAllIsHandedOver: rows of entries of any sizes, which others join on the way, get empty, each in its order; then nobody is picked.
func TestAllIsHandedOver(t *testing.T) {
	for start := range 200 {
		draw := drawing(start)
		x := asked{make([]int, 3), []int{1 + draw(4), 1 + draw(4), 1 + draw(4)}, 1 + draw(60), impl.TurnNew()}
		rows, waited, more := make([][]int, 3), make([]int, 3), 60
		for step := range 4000 {
			if more > 0 && draw(2) == 0 {
				k := draw(3)
				rows[k] = append(rows[k], 1+draw(200))
				more--
			}
			for k, row := range rows {
				x.sizes[k] = append(slices.Clone(row), 0)[0]
			}
			k, after := picks(t, x)
			x.turn = after
			if k < 0 && more == 0 {
				break
			} else if k < 0 {
				continue
			}
			rows[k] = rows[k][1:]
			for other, row := range rows {
				waited[other]++
				if other == k || len(row) == 0 {
					waited[other] = 0
				}
				// 200 turns are enough for any size; each gives the others 240 at most.
				if waited[other] > 200*2*241 {
					t.Fatalf("step %d of %d: agent %d was not picked for %d picks", step, start, other, waited[other])
				}
			}
		}
		if more > 0 || len(rows[0])+len(rows[1])+len(rows[2]) > 0 || !exactTurn(x.turn, impl.TurnNew()) {
			t.Fatalf("%d: left over %v, the turn %v", start, rows, x.turn)
		}
	}
}

// classing is PickClass as the document's words have it.
func classing(high, low bool, since, quota int) (int, int) {
	if since < 0 || since > 1000 || quota < 1 || quota > 10 || !high && !low {
		return -1, 0
	}
	if !low {
		return 0, 0
	}
	if !high || since+1 >= quota {
		return 1, 0
	}
	return 0, since + 1
}

// classed asks and holds the answer against the words.
func classed(t *testing.T, high, low bool, since, quota int) (int, int) {
	t.Helper()
	k, n := impl.PickClass(high, low, since, quota)
	if want, wantN := classing(high, low, since, quota); k != want || n != wantN {
		t.Fatalf("PickClass(%v, %v, %d, %d) = %d, %d, want %d, %d", high, low, since, quota, k, n, want, wantN)
	}
	return k, n
}

func TestPickClass(t *testing.T) {
	for _, x := range []struct {
		high, low    bool
		since, quota int
		class, next  int
	}{
		{true, true, 0, 3, 0, 1},
		{true, true, 1, 3, 0, 2},
		{true, true, 2, 3, 1, 0},
		{true, true, 3, 3, 1, 0},
		{true, true, 4, 3, 1, 0},
		{true, true, 0, 1, 1, 0},
		{true, true, 0, 2, 0, 1},
		{true, true, 1, 2, 1, 0},
		{true, true, 8, 10, 0, 9},
		{true, true, 9, 10, 1, 0},
		{true, true, 10, 10, 1, 0},
		{true, true, 1000, 10, 1, 0},
		{true, true, 1001, 10, -1, 0},
		{true, true, -1, 10, -1, 0},
		{true, true, 0, 0, -1, 0},
		{true, true, 0, 11, -1, 0},
		{true, true, 0, -1, -1, 0},
		{true, false, 0, 1, 0, 0},
		{true, false, 2, 3, 0, 0},
		{true, false, 1000, 10, 0, 0},
		{true, false, 1001, 10, -1, 0},
		{true, false, 5, 11, -1, 0},
		{false, true, 0, 1, 1, 0},
		{false, true, 0, 3, 1, 0},
		{false, true, 1000, 10, 1, 0},
		{false, true, -1, 3, -1, 0},
		{false, true, 0, 0, -1, 0},
		{false, false, 0, 3, -1, 0},
		{false, false, 5, 3, -1, 0},
		{false, false, 1001, 0, -1, 0},
	} {
		if k, n := impl.PickClass(x.high, x.low, x.since, x.quota); k != x.class || n != x.next {
			t.Errorf("PickClass(%v, %v, %d, %d) = %d, %d, want %d, %d", x.high, x.low, x.since, x.quota, k, n, x.class, x.next)
		}
	}
}

func TestPickClassOfAllNumbers(t *testing.T) {
	sinces := append(edgeInts(), 999, 1000, 1001, 1002)
	for n := -3; n <= 1003; n++ {
		sinces = append(sinces, n)
	}
	quotas := append(edgeInts(), counting(14)...)
	for _, since := range sinces {
		for _, quota := range quotas {
			for mask := range 4 {
				classed(t, mask%2 == 1, mask/2 == 1, since, quota)
			}
		}
	}
}

// TestWithinItsQuota: where both have something the lower class is each quota-th, and no other.
func TestWithinItsQuota(t *testing.T) {
	for quota := 1; quota <= 10; quota++ {
		since := 0
		for step := 1; step <= 10*quota; step++ {
			k, next := classed(t, true, true, since, quota)
			if (k == 1) != (step%quota == 0) || next != step%quota {
				t.Fatalf("quota %d, step %d: class %d, since %d", quota, step, k, next)
			}
			since = next
		}
	}
}

// TestTheLowerClassWaits: whatever comes and goes, no more than quota - 1 of the higher class go ahead of one of the lower that waits.
func TestTheLowerClassWaits(t *testing.T) {
	for start := range 100 {
		draw := drawing(start)
		quota, since, waits := 1+start%10, 0, 0
		longest := 0
		for range 500 {
			high, low := draw(8) > 0, waits > 0 || draw(3) == 0
			k, next := classed(t, high, low, since, quota)
			switch {
			case low && k == 0:
				waits++
			case k == 1 && !low, k == 0 && !high:
				t.Fatalf("quota %d: class %d has nothing", quota, k)
			default:
				waits = 0
			}
			if longest = max(longest, waits); next != waits {
				t.Fatalf("quota %d: %d went ahead, told is %d", quota, waits, next)
			}
			since = next
		}
		if longest != quota-1 {
			t.Fatalf("quota %d: %d went ahead of one of the lower class", quota, longest)
		}
	}
}

// roomyAsk gives every list of an ask spare room with a mark in it.
func roomyAsk(x asked) asked {
	x.sizes, x.weights, x.turn.Left = spare(x.sizes), spare(x.weights), spare(x.turn.Left)
	return x
}

// askAsGiven: all of it is as it was, and so is the room behind its lists.
func askAsGiven(x, was asked) bool {
	lists, were := [][]int{x.sizes, x.weights, x.turn.Left}, [][]int{was.sizes, was.weights, was.turn.Left}
	for k, list := range lists {
		if !slices.Equal(list, were[k]) || slices.ContainsFunc(list[len(list):cap(list)], func(n int) bool { return n != spareMark }) {
			return false
		}
	}
	return x.quantum == was.quantum && exactTurn(x.turn, was.turn)
}

// scribbleTurn writes over what a turn has left, and over the room behind it.
func scribbleTurn(t impl.Turn) {
	left := t.Left[:cap(t.Left)]
	for k := range left {
		left[k] = -555
	}
}

func TestPickSharesNothing(t *testing.T) {
	all := goodAsks()
	for _, x := range badAsks() {
		all = append(all, x)
	}
	for _, was := range all {
		x := roomyAsk(was)
		k, after := impl.Pick(x.sizes, x.weights, x.quantum, x.turn)
		again, afterAgain := impl.Pick(x.sizes, x.weights, x.quantum, x.turn)
		if !askAsGiven(x, was) {
			t.Fatalf("Pick of %v wrote into it", was)
		}
		if k != again || !exactTurn(after, afterAgain) {
			t.Fatalf("Pick of %v = %d, %v, and then %d, %v", was, k, after, again, afterAgain)
		}
		kept := twinTurn(afterAgain)
		scribbleTurn(after)
		if !askAsGiven(x, was) || !exactTurn(afterAgain, kept) {
			t.Fatalf("Pick of %v: the answer shares memory", was)
		}
	}
}

// TestPickOfOneList: sizes, weights and what is left may be one list.
func TestPickOfOneList(t *testing.T) {
	for _, list := range triples(1, 2, 3, 4) {
		for at := range 3 {
			for _, fresh := range []bool{false, true} {
				given := spare(list)
				x := asked{given, given, 1, turnAt(at, fresh, given...)}
				x.turn.Left = given
				_, after := picks(t, x)
				scribbleTurn(after)
				if !askAsGiven(x, asked{list, list, 1, turnAt(at, fresh, list...)}) {
					t.Fatalf("Pick of one list wrote into it, or shares it: %v", x)
				}
			}
		}
	}
}

func TestAskingLeavesTheTurn(t *testing.T) {
	for name, x := range badTurns() {
		given := asked{nil, nil, 0, impl.Turn{At: x.At, Fresh: x.Fresh, Left: spare(x.Left)}}
		impl.TurnOk(given.turn)
		if !askAsGiven(given, asked{nil, nil, 0, x}) {
			t.Errorf("%s: TurnOk wrote into %v", name, x)
		}
	}
	for _, left := range triples(0, 1000) {
		given := asked{nil, nil, 0, turnAt(1, true, left...)}
		given.turn.Left = spare(left)
		impl.TurnOk(given.turn)
		if !askAsGiven(given, asked{nil, nil, 0, turnAt(1, true, left...)}) {
			t.Errorf("TurnOk wrote into %v", left)
		}
	}
}

// TestEmptyListsOfAnAsk: an empty list is as nil.
func TestEmptyListsOfAnAsk(t *testing.T) {
	empty := []int{}
	if impl.TurnOk(impl.Turn{Left: empty}) {
		t.Error("TurnOk of a turn with an empty list")
	}
	unpicked(t, "empty Left", changedAsk(someAsk(), func(x *asked) { x.turn.Left = empty }))
	unpicked(t, "empty sizes", changedAsk(someAsk(), func(x *asked) { x.sizes = empty }))
	unpicked(t, "empty weights", changedAsk(someAsk(), func(x *asked) { x.weights = empty }))
	unpicked(t, "all lists empty", asked{empty, empty, 5, impl.Turn{At: 1, Left: empty}})
}
