package tests

import (
	"math"
	"slices"
	"testing"

	"loop.example/g00491/impl"
)

// exactAgent holds two agents against each other, list by list.
func exactAgent(a, b impl.Agent) bool {
	return a.Id == b.Id && a.Epoch == b.Epoch && a.Live == b.Live && a.Granted == b.Granted && a.Next == b.Next &&
		slices.EqualFunc(a.Sealed, b.Sealed, exactItem) && slices.Equal(a.Taken, b.Taken)
}

// twinAgent copies an agent of any shape.
func twinAgent(a impl.Agent) impl.Agent {
	a.Taken, a.Sealed = slices.Clone(a.Taken), slices.Clone(a.Sealed)
	for k := range a.Sealed {
		a.Sealed[k].Sketch = twin(a.Sealed[k].Sketch)
	}
	return a
}

// changedAgent is a twin with one thing turned.
func changedAgent(a impl.Agent, turn func(*impl.Agent)) impl.Agent {
	a = twinAgent(a)
	turn(&a)
	return a
}

// sealedItems: n items in their places, of all classes, keys and windows, and of all sorts of summaries.
func sealedItems(n int) []impl.Item {
	var list []impl.Item
	sketches := goodSketches()
	for k := range n {
		list = append(list, impl.Item{Seq: k + 1, Class: k % 2, Key: k % 5, Window: k % 21, Sketch: twin(sketches[(k+2)%len(sketches)])})
	}
	return list
}

// someAgent has four items, of which it may send three and knows the second one to be taken.
func someAgent() impl.Agent {
	return impl.Agent{Id: 1, Epoch: 5, Live: true, Granted: 3, Sealed: sealedItems(4), Taken: spanList(2, 2), Next: 1}
}

// fullAgent has as many items as there can be, and every number at its limit.
func fullAgent() impl.Agent {
	return impl.Agent{Id: 2, Epoch: 1000, Live: true, Granted: 60, Sealed: sealedItems(60), Taken: spanList(1, 3, 60, 60), Next: 60}
}

// takenOf: sets of an agent with n items: none of them, some and all.
func takenOf(n int) [][]impl.Span {
	all := [][]impl.Span{nil}
	if n > 0 {
		all = append(all, spanList(1, n), spanList(n, n))
	}
	if n > 2 {
		all = append(all, spanList(1, 1), spanList(2, n-1), spanList(1, 1, n, n))
	}
	return all
}

// grantsOf: below, at and above how many items there are.
func grantsOf(n int) []int {
	return slices.Compact([]int{0, n / 2, max(n-1, 0), n, min(n+1, 60), 60})
}

// goodAgents: with no, one, several and MaxSeq items, Live and not, with all sorts of Granted, Taken and Next.
func goodAgents() []impl.Agent {
	all := []impl.Agent{{}, someAgent(), fullAgent()}
	for _, n := range []int{0, 1, 2, 5, 60} {
		sealed := sealedItems(n)
		for k, taken := range takenOf(n) {
			for i, granted := range grantsOf(n) {
				next := []int{0, 1, n / 2, n, 60}[(k+i)%5]
				all = append(all, impl.Agent{Id: (k + i) % 3, Epoch: 1 + 499*i%1000, Live: true, Granted: granted, Sealed: sealed, Taken: taken, Next: next})
			}
			all = append(all, impl.Agent{Id: k % 3, Epoch: k, Sealed: sealed, Taken: taken, Next: min(k, n)})
		}
	}
	return all
}

// smallAgents: all agents of three items, by which ones are taken, what is granted and what was sent last.
func smallAgents() []impl.Agent {
	var all []impl.Agent
	sealed := sealedItems(3)
	for _, taken := range smallSets(1, 3) {
		for granted := range 5 {
			for next := range 5 {
				all = append(all, impl.Agent{Id: 1, Epoch: 5, Live: true, Granted: granted, Sealed: sealed, Taken: taken, Next: next})
			}
		}
		all = append(all, impl.Agent{Id: 1, Epoch: 5, Sealed: sealed, Taken: taken, Next: 2})
	}
	return all
}

// badAgents: each is off in one thing alone.
func badAgents() map[string]impl.Agent {
	bad := map[string]impl.Agent{}
	for name, a := range map[string]impl.Agent{"some": someAgent(), "full": fullAgent(), "zero": {}} {
		numbersOff(bad, name, a)
		n := len(a.Sealed)
		for k, s := range append(takenWrong(), spanList(n+1, n+1), spanList(1, n+1), spanList(0, n), spanList(0, 0), spanList(1, 1, n+3, n+3), spanList(n+2, n+2)) {
			bad[name+": Taken: wrong set "+impl.Digits(k)] = changedAgent(a, func(a *impl.Agent) { a.Taken = s })
		}
	}
	for _, granted := range []int{1, 2, 59, 60} {
		for name, a := range map[string]impl.Agent{"some": someAgent(), "full": fullAgent(), "zero": {}} {
			bad[name+": not Live with Granted "+impl.Digits(granted)] = changedAgent(a, func(a *impl.Agent) { a.Live, a.Granted = false, granted })
		}
	}
	itemsOff(bad)
	return bad
}

func numbersOff(bad map[string]impl.Agent, name string, a impl.Agent) {
	for _, n := range []int{math.MinInt, -100, -1, 3, 4, math.MaxInt} {
		bad[name+": Id "+impl.Digits(n)] = changedAgent(a, func(a *impl.Agent) { a.Id = n })
	}
	for _, n := range []int{math.MinInt, -1, 1001, 1002, math.MaxInt} {
		bad[name+": Epoch "+impl.Digits(n)] = changedAgent(a, func(a *impl.Agent) { a.Epoch = n })
	}
	for _, n := range []int{math.MinInt, -1, 61, 62, math.MaxInt} {
		bad[name+": Granted "+impl.Digits(n)] = changedAgent(a, func(a *impl.Agent) { a.Live, a.Granted = true, n })
		bad[name+": not Live with Granted "+impl.Digits(n)] = changedAgent(a, func(a *impl.Agent) { a.Live, a.Granted = false, n })
		bad[name+": Next "+impl.Digits(n)] = changedAgent(a, func(a *impl.Agent) { a.Next = n })
	}
}

func itemsOff(bad map[string]impl.Agent) {
	more := impl.Item{Seq: 61, Sketch: heap([]int{9})}
	bad["an item more"] = changedAgent(fullAgent(), func(a *impl.Agent) { a.Sealed = append(a.Sealed, more) })
	bad["an item more, with a Seq that there is"] = changedAgent(fullAgent(), func(a *impl.Agent) { a.Sealed = append(a.Sealed, a.Sealed[59]) })
	bad["many items more"] = changedAgent(fullAgent(), func(a *impl.Agent) { a.Sealed = append(a.Sealed, a.Sealed...) })
	for name, a := range map[string]impl.Agent{"some": someAgent(), "full": fullAgent()} {
		last := len(a.Sealed) - 1
		for _, k := range []int{0, 1, last} {
			for _, seq := range []int{math.MinInt, -1, 0, k, k + 2, last + 2, 61, math.MaxInt} {
				bad[name+": Seq "+impl.Digits(seq)+" at "+impl.Digits(k)] = changedAgent(a, func(a *impl.Agent) { a.Sealed[k].Seq = seq })
			}
		}
		bad[name+": the first two in each other's place"] = changedAgent(a, func(a *impl.Agent) { a.Sealed[0], a.Sealed[1] = a.Sealed[1], a.Sealed[0] })
		bad[name+": without the first one"] = changedAgent(a, func(a *impl.Agent) { a.Taken, a.Sealed = nil, a.Sealed[1:] })
		bad[name+": from Seq 0 on"] = changedAgent(a, func(a *impl.Agent) {
			for k := range a.Sealed {
				a.Sealed[k].Seq = k
			}
		})
	}
	for name, x := range badItems() {
		for _, k := range []int{0, 3} {
			// badItems are off from Seq 7; here the Seq is that of the place, if it is not what is off.
			if x.Seq == 7 {
				x.Seq = k + 1
			}
			bad["some: at "+impl.Digits(k)+" "+name] = changedAgent(someAgent(), func(a *impl.Agent) { a.Sealed[k] = x })
		}
	}
}

// agentsOfAllSorts: good ones and wrong ones.
func agentsOfAllSorts() []impl.Agent {
	all := append(goodAgents(), smallAgents()...)
	for _, a := range badAgents() {
		all = append(all, a)
	}
	return all
}

// waits is Waiting as the document's words have it, of an agent that is AgentOk.
func waits(a impl.Agent) []int {
	var list []int
	taken := numbersOf(a.Taken)
	for seq := 1; seq <= len(a.Sealed); seq++ {
		if a.Live && seq <= a.Granted && !slices.Contains(taken, seq) {
			list = append(list, seq)
		}
	}
	return list
}

// sends is AgentSend as the document's words have it, of an agent that is AgentOk.
func sends(a impl.Agent) (impl.Agent, impl.Frame) {
	list := waits(a)
	if len(list) == 0 {
		return a, impl.Frame{Kind: 0, Agent: a.Id, Epoch: a.Epoch}
	}
	k := slices.IndexFunc(list, func(seq int) bool { return seq > a.Next })
	a.Next = list[max(k, 0)]
	return a, impl.Frame{Kind: 1, Agent: a.Id, Epoch: a.Epoch, Item: a.Sealed[a.Next-1]}
}

// hears is AgentHear as the document's words have it, of an agent that is AgentOk and a frame that is FrameOk.
func hears(a impl.Agent, f impl.Frame) (impl.Agent, int) {
	known, heard := numbersOf(a.Taken), numbersOf(f.Taken)
	if f.Kind != 2 && f.Kind != 3 || f.Agent != a.Id || len(heard) > 0 && slices.Max(heard) > len(a.Sealed) {
		return a, 1
	}
	if f.Epoch < a.Epoch {
		return a, 2
	}
	a.Taken = stretches(slices.Concat(known, heard))
	switch {
	case f.Kind == 3:
		a.Live, a.Granted = false, 0
	case f.Epoch > a.Epoch:
		a.Live, a.Granted = true, f.Granted
	case !a.Live:
		a.Live, a.Granted = true, f.Granted
	case f.Granted > a.Granted:
		a.Granted = f.Granted
	}
	a.Epoch = f.Epoch
	return a, 0
}

// ackFor is an FrAck for an agent, with so many epochs more than its own.
func ackFor(a impl.Agent, later, granted int, taken ...int) impl.Frame {
	return impl.Frame{Kind: impl.FrAck, Agent: a.Id, Epoch: a.Epoch + later, Granted: granted, Taken: spanList(taken...)}
}

// resetFor is an FrReset for an agent likewise.
func resetFor(a impl.Agent, later int, taken ...int) impl.Frame {
	return impl.Frame{Kind: impl.FrReset, Agent: a.Id, Epoch: a.Epoch + later, Taken: spanList(taken...)}
}

// heardBy: the agent hears a frame that it must take.
func heardBy(t *testing.T, a impl.Agent, f impl.Frame) impl.Agent {
	t.Helper()
	got, how := impl.AgentHear(a, f)
	if how != impl.HrOk || !impl.AgentOk(got) {
		t.Fatalf("AgentHear(%v, %v) = %v, %d", a, f, got, how)
	}
	return got
}

// unheard: the agent hears a frame and stays as it was.
func unheard(t *testing.T, name string, a impl.Agent, f impl.Frame, code int) {
	t.Helper()
	if got, how := impl.AgentHear(a, f); how != code || !exactAgent(got, a) {
		t.Errorf("%s: AgentHear(%v, %v) = %v, %d, want as it was, %d", name, a, f, got, how, code)
	}
}

func TestAgentConstants(t *testing.T) {
	if impl.HrOk != 0 || impl.HrBad != 1 || impl.HrOld != 2 {
		t.Errorf("HrOk, HrBad, HrOld = %d, %d, %d", impl.HrOk, impl.HrBad, impl.HrOld)
	}
}

func TestAgentOk(t *testing.T) {
	for _, a := range append(goodAgents(), smallAgents()...) {
		if !impl.AgentOk(a) {
			t.Errorf("AgentOk(%v) = false", a)
		}
	}
	for name, a := range badAgents() {
		if impl.AgentOk(a) {
			t.Errorf("%s: AgentOk(%v) = true", name, a)
		}
	}
}

func TestAgentOkAtTheLimits(t *testing.T) {
	for n := -3; n <= 1005; n++ {
		one := func(turn func(*impl.Agent)) impl.Agent { return changedAgent(someAgent(), turn) }
		for name, x := range map[string]struct {
			a    impl.Agent
			want bool
		}{
			"Id":                   {one(func(a *impl.Agent) { a.Id = n }), n >= 0 && n <= 2},
			"Epoch":                {one(func(a *impl.Agent) { a.Epoch = n }), n >= 0 && n <= 1000},
			"Granted":              {one(func(a *impl.Agent) { a.Granted = n }), n >= 0 && n <= 60},
			"Granted and not Live": {one(func(a *impl.Agent) { a.Live, a.Granted = false, n }), n == 0},
			"Next":                 {one(func(a *impl.Agent) { a.Next = n }), n >= 0 && n <= 60},
			"Next and not Live":    {one(func(a *impl.Agent) { a.Live, a.Granted, a.Next = false, 0, n }), n >= 0 && n <= 60},
			"Taken":                {one(func(a *impl.Agent) { a.Taken = spanList(n, n) }), n >= 1 && n <= 4},
			"Taken up to it":       {one(func(a *impl.Agent) { a.Taken = spanList(1, n) }), n >= 1 && n <= 4},
			"Taken from it on":     {one(func(a *impl.Agent) { a.Taken = spanList(n, 4) }), n >= 1 && n <= 4},
			"Taken and not Live":   {one(func(a *impl.Agent) { a.Live, a.Granted, a.Taken = false, 0, spanList(n, n) }), n >= 1 && n <= 4},
			"Taken of none":        {impl.Agent{Taken: spanList(n, n)}, false},
			"Taken of 60":          {impl.Agent{Sealed: sealedItems(60), Taken: spanList(n, n)}, n >= 1 && n <= 60},
			"Seq of the third":     {one(func(a *impl.Agent) { a.Sealed[2].Seq = n }), n == 3},
			"Class of the third":   {one(func(a *impl.Agent) { a.Sealed[2].Class = n }), n >= 0 && n <= 1},
			"Key of the third":     {one(func(a *impl.Agent) { a.Sealed[2].Key = n }), n >= 0 && n <= 4},
			"Window of the third":  {one(func(a *impl.Agent) { a.Sealed[2].Window = n }), n >= 0 && n <= 20},
		} {
			if got := impl.AgentOk(x.a); got != x.want {
				t.Errorf("%s %d: AgentOk(%v) = %v", name, n, x.a, got)
			}
		}
	}
	for n := range 130 {
		if got := impl.AgentOk(impl.Agent{Sealed: sealedItems(n)}); got != (n <= 60) {
			t.Errorf("AgentOk with %d items = %v", n, got)
		}
	}
}

func TestAgentNew(t *testing.T) {
	for _, id := range []int{0, 1, 2} {
		a, ok := impl.AgentNew(id)
		if !ok || !exactAgent(a, impl.Agent{Id: id}) || !impl.AgentOk(a) {
			t.Errorf("AgentNew(%d) = %v, %v", id, a, ok)
		}
	}
	for _, id := range []int{math.MinInt, -100, -2, -1, 3, 4, 60, 100, math.MaxInt} {
		if a, ok := impl.AgentNew(id); ok || !exactAgent(a, impl.Agent{}) {
			t.Errorf("AgentNew(%d) = %v, %v, want zero, false", id, a, ok)
		}
	}
}

// TestZeroAgent: it is the one that AgentNew makes of 0.
func TestZeroAgent(t *testing.T) {
	zero := impl.Agent{}
	if !impl.AgentOk(zero) || len(impl.Waiting(zero)) != 0 {
		t.Errorf("AgentOk, Waiting of zero = %v, %v", impl.AgentOk(zero), impl.Waiting(zero))
	}
	if a, f := impl.AgentSend(zero); !exactAgent(a, zero) || !exactFrame(f, impl.Frame{}) || !impl.FrameOk(f) {
		t.Errorf("AgentSend of zero = %v, %v", a, f)
	}
	if a, seq := impl.Seal(zero, 0, 0, 0, heap([]int{3})); seq != 1 || !exactAgent(a, impl.Agent{Sealed: []impl.Item{{Seq: 1, Sketch: heap([]int{3})}}}) {
		t.Errorf("Seal of zero = %v, %d", a, seq)
	}
	// The zero Frame is an FrHello.
	unheard(t, "a zero frame", zero, impl.Frame{}, impl.HrBad)
	if a := heardBy(t, zero, impl.Frame{Kind: impl.FrAck}); !exactAgent(a, impl.Agent{Live: true}) {
		t.Errorf("AgentHear of zero = %v", a)
	}
	if a := heardBy(t, zero, impl.Frame{Kind: impl.FrReset}); !exactAgent(a, zero) {
		t.Errorf("AgentHear of zero = %v", a)
	}
}

func TestSeal(t *testing.T) {
	for _, a := range goodAgents() {
		n := len(a.Sealed)
		x := impl.Item{Seq: n + 1, Class: n % 2, Key: 4, Window: 20, Sketch: heap([]int{8, 9})}
		got, seq := impl.Seal(a, x.Class, x.Key, x.Window, x.Sketch)
		if n == 60 {
			if seq != 0 || !exactAgent(got, a) {
				t.Errorf("Seal of an agent with 60 items = %v, %d", got, seq)
			}
			continue
		}
		want := changedAgent(a, func(a *impl.Agent) { a.Sealed = append(a.Sealed, x) })
		if seq != n+1 || !exactAgent(got, want) || !impl.AgentOk(got) {
			t.Errorf("Seal of %v = %v, %d, want %v", a, got, seq, want)
		}
	}
}

// TestSealOneBehindTheOther fills an agent from none on, and one more is refused.
func TestSealOneBehindTheOther(t *testing.T) {
	want := sealedItems(60)
	a, _ := impl.AgentNew(2)
	for k, x := range want {
		next, seq := impl.Seal(a, x.Class, x.Key, x.Window, x.Sketch)
		if seq != k+1 || !exactAgent(next, impl.Agent{Id: 2, Sealed: want[:k+1]}) {
			t.Fatalf("Seal of item %d = %v, %d", k+1, next, seq)
		}
		a = next
	}
	for range 3 {
		next, seq := impl.Seal(a, 0, 0, 0, heap(nil))
		if seq != 0 || !exactAgent(next, a) {
			t.Errorf("Seal of one more = %v, %d, want as it was, 0", next, seq)
		}
		a = next
	}
}

func TestSealAtTheLimits(t *testing.T) {
	a := someAgent()
	for class := -2; class <= 3; class++ {
		for key := -2; key <= 6; key++ {
			for window := -2; window <= 22; window++ {
				x := impl.Item{Seq: 5, Class: class, Key: key, Window: window, Sketch: heap([]int{7})}
				want, wantSeq := a, 0
				if class >= 0 && class <= 1 && key >= 0 && key <= 4 && window >= 0 && window <= 20 {
					want, wantSeq = changedAgent(a, func(a *impl.Agent) { a.Sealed = append(a.Sealed, x) }), 5
				}
				if got, seq := impl.Seal(a, class, key, window, x.Sketch); seq != wantSeq || !exactAgent(got, want) {
					t.Errorf("Seal(.., %d, %d, %d, ..) = %v, %d, want %d", class, key, window, got, seq, wantSeq)
				}
			}
		}
	}
	for _, s := range goodSketches() {
		got, seq := impl.Seal(a, 1, 2, 3, s)
		if want := append(sealedItems(4), impl.Item{Seq: 5, Class: 1, Key: 2, Window: 3, Sketch: s}); seq != 5 || !slices.EqualFunc(got.Sealed, want, exactItem) {
			t.Errorf("Seal of %v = %v, %d", s, got, seq)
		}
	}
}

func TestSealRefuses(t *testing.T) {
	refuse := func(name string, a impl.Agent, class, key, window int, s impl.Sketch) {
		t.Helper()
		if got, seq := impl.Seal(a, class, key, window, s); seq != 0 || !exactAgent(got, a) {
			t.Errorf("%s: Seal(%v, %d, %d, %d, %v) = %v, %d, want as it was, 0", name, a, class, key, window, s, got, seq)
		}
	}
	for _, a := range []impl.Agent{{}, someAgent(), fullAgent()} {
		for _, n := range []int{math.MinInt, -1, 21, 60, math.MaxInt} {
			refuse("Class", a, n, 0, 0, heap(nil))
			refuse("Key", a, 0, n, 0, heap(nil))
			refuse("Window", a, 0, 0, n, heap(nil))
		}
		refuse("Class 2", a, 2, 0, 0, heap(nil))
		refuse("Key 5", a, 0, 5, 0, heap(nil))
		for name, s := range badSketches() {
			refuse(name, a, 0, 0, 0, s)
		}
	}
	// One with Taken one above how many are Sealed would be AgentOk with an item more, but it is not so now.
	for name, a := range badAgents() {
		refuse(name, a, 0, 0, 0, heap([]int{1}))
	}
	for _, n := range []int{0, 1, 4, 59} {
		refuse("Taken of the item itself", impl.Agent{Sealed: sealedItems(n), Taken: spanList(n+1, n+1)}, 0, 0, 0, heap([]int{1}))
	}
}

func TestWaiting(t *testing.T) {
	four := sealedItems(4)
	for _, x := range []struct {
		a    impl.Agent
		want []int
	}{
		{impl.Agent{}, nil},
		{impl.Agent{Live: true, Granted: 60}, nil},
		{impl.Agent{Sealed: four}, nil},
		{impl.Agent{Live: true, Sealed: four}, nil},
		{impl.Agent{Live: true, Granted: 1, Sealed: four}, []int{1}},
		{impl.Agent{Live: true, Granted: 3, Sealed: four}, []int{1, 2, 3}},
		{impl.Agent{Live: true, Granted: 4, Sealed: four}, []int{1, 2, 3, 4}},
		{impl.Agent{Live: true, Granted: 5, Sealed: four}, []int{1, 2, 3, 4}},
		{impl.Agent{Live: true, Granted: 60, Sealed: four}, []int{1, 2, 3, 4}},
		{impl.Agent{Live: true, Granted: 4, Sealed: four, Next: 4}, []int{1, 2, 3, 4}},
		{impl.Agent{Live: true, Granted: 4, Sealed: four, Next: 2}, []int{1, 2, 3, 4}},
		{impl.Agent{Live: true, Granted: 4, Sealed: four, Taken: spanList(1, 4)}, nil},
		{impl.Agent{Live: true, Granted: 4, Sealed: four, Taken: spanList(2, 3)}, []int{1, 4}},
		{impl.Agent{Live: true, Granted: 3, Sealed: four, Taken: spanList(2, 2)}, []int{1, 3}},
		{impl.Agent{Live: true, Granted: 2, Sealed: four, Taken: spanList(4, 4)}, []int{1, 2}},
		{impl.Agent{Live: true, Granted: 2, Sealed: four, Taken: spanList(1, 1, 3, 3)}, []int{2}},
		{impl.Agent{Sealed: four, Taken: spanList(2, 3)}, nil},
		{someAgent(), []int{1, 3}},
	} {
		if got := impl.Waiting(x.a); !slices.Equal(got, x.want) {
			t.Errorf("Waiting(%v) = %v, want %v", x.a, got, x.want)
		}
	}
	for _, a := range append(goodAgents(), smallAgents()...) {
		if got := impl.Waiting(a); !slices.Equal(got, waits(a)) {
			t.Errorf("Waiting(%v) = %v, want %v", a, got, waits(a))
		}
	}
	for name, a := range badAgents() {
		if got := impl.Waiting(a); len(got) != 0 {
			t.Errorf("%s: Waiting(%v) = %v, want nothing", name, a, got)
		}
	}
}

func TestAgentSend(t *testing.T) {
	five := sealedItems(5)
	for _, x := range []struct {
		a   impl.Agent
		seq int // 0 is an FrHello
	}{
		{impl.Agent{Id: 1, Epoch: 7}, 0},
		{impl.Agent{Id: 2, Epoch: 7, Sealed: five}, 0},
		{impl.Agent{Id: 2, Epoch: 7, Sealed: five, Next: 3}, 0},
		{impl.Agent{Live: true, Sealed: five}, 0},
		{impl.Agent{Live: true, Granted: 60}, 0},
		{impl.Agent{Live: true, Granted: 5, Sealed: five, Taken: spanList(1, 5)}, 0},
		{impl.Agent{Live: true, Granted: 2, Sealed: five, Taken: spanList(1, 2), Next: 2}, 0},
		{impl.Agent{Live: true, Granted: 5, Sealed: five}, 1},
		{impl.Agent{Live: true, Granted: 5, Sealed: five, Next: 1}, 2},
		{impl.Agent{Live: true, Granted: 5, Sealed: five, Next: 4}, 5},
		{impl.Agent{Live: true, Granted: 5, Sealed: five, Next: 5}, 1},
		{impl.Agent{Live: true, Granted: 5, Sealed: five, Next: 60}, 1},
		{impl.Agent{Live: true, Granted: 3, Sealed: five, Next: 3}, 1},
		{impl.Agent{Live: true, Granted: 3, Sealed: five, Next: 2}, 3},
		{impl.Agent{Live: true, Granted: 5, Sealed: five, Taken: spanList(1, 1), Next: 5}, 2},
		{impl.Agent{Live: true, Granted: 5, Sealed: five, Taken: spanList(2, 3), Next: 1}, 4},
		{impl.Agent{Live: true, Granted: 3, Sealed: five, Taken: spanList(2, 3), Next: 1}, 1},
		{impl.Agent{Live: true, Granted: 5, Sealed: five, Taken: spanList(1, 3, 5, 5), Next: 4}, 4},
		{impl.Agent{Live: true, Granted: 60, Sealed: five, Taken: spanList(3, 3), Next: 3}, 4},
	} {
		want, frame := x.a, impl.Frame{Agent: x.a.Id, Epoch: x.a.Epoch}
		if x.seq > 0 {
			want.Next, frame.Kind, frame.Item = x.seq, impl.FrData, five[x.seq-1]
		}
		if got, f := impl.AgentSend(x.a); !exactAgent(got, want) || !exactFrame(f, frame) {
			t.Errorf("AgentSend(%v) = %v, %v, want Seq %d", x.a, got, f, x.seq)
		}
	}
}

func TestAgentSendIsAsTold(t *testing.T) {
	for _, a := range append(goodAgents(), smallAgents()...) {
		want, frame := sends(a)
		got, f := impl.AgentSend(a)
		if !exactAgent(got, want) || !exactFrame(f, frame) || !impl.AgentOk(got) || !impl.FrameOk(f) {
			t.Errorf("AgentSend(%v) = %v, %v, want %v, %v", a, got, f, want, frame)
		}
	}
	for name, a := range badAgents() {
		if got, f := impl.AgentSend(a); !exactAgent(got, a) || !exactFrame(f, impl.Frame{}) {
			t.Errorf("%s: AgentSend(%v) = %v, %v, want as it was, zero", name, a, got, f)
		}
	}
}

// TestWhatWaitsIsSentInItsTurn: within as many sends as wait each is sent, from the first one above Next on, coming round; and so again.
func TestWhatWaitsIsSentInItsTurn(t *testing.T) {
	for _, a := range append(goodAgents(), smallAgents()...) {
		var above, notAbove []int
		for _, seq := range waits(a) {
			if seq > a.Next {
				above = append(above, seq)
			} else {
				notAbove = append(notAbove, seq)
			}
		}
		want := slices.Concat(above, notAbove)
		now := a
		for k, seq := range slices.Repeat(want, 3) {
			next, f := impl.AgentSend(now)
			if f.Kind != impl.FrData || f.Item.Seq != seq || next.Next != seq || !exactItem(f.Item, a.Sealed[seq-1]) {
				t.Fatalf("send %d of %v: %v, %v, want Seq %d", k, a, next, f, seq)
			}
			now = next
		}
		if len(want) == 0 {
			for range 3 {
				next, f := impl.AgentSend(now)
				if f.Kind != impl.FrHello || f.Agent != a.Id || f.Epoch != a.Epoch {
					t.Fatalf("%v sends %v where nothing waits", a, f)
				}
				now = next
			}
		}
		if now.Next = a.Next; !exactAgent(now, a) {
			t.Errorf("sending turned more than Next of %v: %v", a, now)
		}
	}
}

// framesFor: of all kinds and epochs, with Granted and Taken of all sorts.
func framesFor(a impl.Agent) []impl.Frame {
	n := len(a.Sealed)
	var all []impl.Frame
	for _, epoch := range []int{0, a.Epoch - 1, a.Epoch, a.Epoch + 1, 1000} {
		for _, kind := range []int{impl.FrAck, impl.FrReset} {
			for _, granted := range []int{0, a.Granted - 1, a.Granted, a.Granted + 1, 60} {
				for _, taken := range append(takenOf(n), spanList(n/2+1, n/2+1), spanList(n+1, n+1), spanList(1, n+1)) {
					f := impl.Frame{Kind: kind, Agent: a.Id, Epoch: epoch, Granted: granted, Taken: taken}
					if impl.FrameOk(f) {
						all = append(all, f)
					}
				}
			}
		}
	}
	return all
}

func TestAgentHear(t *testing.T) {
	codes := map[int]int{}
	for _, a := range append(goodAgents(), smallAgents()...) {
		for _, f := range framesFor(a) {
			want, code := hears(a, f)
			got, how := impl.AgentHear(a, f)
			codes[how]++
			if how != code || !exactAgent(got, want) || !impl.AgentOk(got) {
				t.Fatalf("AgentHear(%v, %v) = %v, %d, want %v, %d", a, f, got, how, want, code)
			}
			if how != impl.HrOk {
				continue
			}
			if again, how := impl.AgentHear(got, f); how != impl.HrOk || !exactAgent(again, got) {
				t.Fatalf("%v, heard twice, turns %v to %v, %d", f, got, again, how)
			}
		}
	}
	if len(codes) != 3 || min(codes[impl.HrOk], codes[impl.HrBad], codes[impl.HrOld]) < 100 {
		t.Errorf("so often was each code told: %v", codes)
	}
}

// TestHearInWords: the cases of the document one by one, from an agent that is Live in epoch 5 with Granted 3 and item 2 taken.
func TestHearInWords(t *testing.T) {
	live := someAgent()
	still := changedAgent(live, func(a *impl.Agent) { a.Live, a.Granted = false, 0 })
	for name, x := range map[string]struct {
		a       impl.Agent
		f       impl.Frame
		epoch   int
		live    bool
		granted int
		taken   []impl.Span
	}{
		"an ack, Granted below":                    {live, ackFor(live, 0, 2), 5, true, 3, spanList(2, 2)},
		"an ack, Granted 0":                        {live, ackFor(live, 0, 0), 5, true, 3, spanList(2, 2)},
		"an ack, Granted the same":                 {live, ackFor(live, 0, 3), 5, true, 3, spanList(2, 2)},
		"an ack, Granted above":                    {live, ackFor(live, 0, 4), 5, true, 4, spanList(2, 2)},
		"an ack, Granted 60":                       {live, ackFor(live, 0, 60), 5, true, 60, spanList(2, 2)},
		"an ack, Taken new":                        {live, ackFor(live, 0, 3, 4, 4), 5, true, 3, spanList(2, 2, 4, 4)},
		"an ack, Taken known":                      {live, ackFor(live, 0, 3, 2, 2), 5, true, 3, spanList(2, 2)},
		"an ack, Taken in part known":              {live, ackFor(live, 0, 3, 1, 3), 5, true, 3, spanList(1, 3)},
		"an ack, Taken touching":                   {live, ackFor(live, 0, 3, 1, 1, 3, 3), 5, true, 3, spanList(1, 3)},
		"an ack, Taken above Granted":              {live, ackFor(live, 0, 0, 3, 4), 5, true, 3, spanList(2, 4)},
		"a later ack, Granted below":               {live, ackFor(live, 1, 2), 6, true, 2, spanList(2, 2)},
		"a later ack, Granted 0":                   {live, ackFor(live, 1, 0), 6, true, 0, spanList(2, 2)},
		"a later ack, Granted above":               {live, ackFor(live, 1, 9), 6, true, 9, spanList(2, 2)},
		"a far later ack":                          {live, ackFor(live, 995, 1, 1, 1), 1000, true, 1, spanList(1, 2)},
		"a reset of its epoch":                     {live, resetFor(live, 0), 5, false, 0, spanList(2, 2)},
		"a reset of its epoch, with Taken":         {live, resetFor(live, 0, 4, 4), 5, false, 0, spanList(2, 2, 4, 4)},
		"a later reset":                            {live, resetFor(live, 1), 6, false, 0, spanList(2, 2)},
		"a far later reset":                        {live, resetFor(live, 995, 3, 3), 1000, false, 0, spanList(2, 3)},
		"not Live: an ack, Granted 0":              {still, ackFor(still, 0, 0), 5, true, 0, spanList(2, 2)},
		"not Live: an ack":                         {still, ackFor(still, 0, 2), 5, true, 2, spanList(2, 2)},
		"not Live: a later ack":                    {still, ackFor(still, 1, 2, 1, 1), 6, true, 2, spanList(1, 2)},
		"not Live: a reset of its epoch":           {still, resetFor(still, 0), 5, false, 0, spanList(2, 2)},
		"not Live: a later reset":                  {still, resetFor(still, 2, 1, 1), 7, false, 0, spanList(1, 2)},
		"a reset of its epoch, with Granted in it": {live, changedFrame(resetFor(live, 0), func(f *impl.Frame) { f.Granted = 9 }), 5, false, 0, spanList(2, 2)},
		"a later reset, with Granted in it":        {live, changedFrame(resetFor(live, 1), func(f *impl.Frame) { f.Granted = 60 }), 6, false, 0, spanList(2, 2)},
		"not Live: a reset with Granted in it":     {still, changedFrame(resetFor(still, 0), func(f *impl.Frame) { f.Granted = 9 }), 5, false, 0, spanList(2, 2)},
	} {
		want := changedAgent(x.a, func(a *impl.Agent) { a.Epoch, a.Live, a.Granted, a.Taken = x.epoch, x.live, x.granted, x.taken })
		if got, how := impl.AgentHear(x.a, x.f); how != impl.HrOk || !exactAgent(got, want) {
			t.Errorf("%s: AgentHear(%v, %v) = %v, %d, want %v", name, x.a, x.f, got, how, want)
		}
	}
}

func TestHearOld(t *testing.T) {
	for _, a := range []impl.Agent{someAgent(), fullAgent(), {Epoch: 1}, changedAgent(someAgent(), func(a *impl.Agent) { a.Live, a.Granted = false, 0 })} {
		for back := 1; back <= a.Epoch; back++ {
			unheard(t, "an ack", a, ackFor(a, -back, 60), impl.HrOld)
			unheard(t, "a reset", a, resetFor(a, -back), impl.HrOld)
			if len(a.Sealed) > 0 {
				unheard(t, "an ack with Taken", a, ackFor(a, -back, 60, 1, 4), impl.HrOld)
				unheard(t, "a reset with Taken", a, resetFor(a, -back, 1, 4), impl.HrOld)
			}
		}
	}
}

// TestHearBad: whatever the epoch, also where it is old.
func TestHearBad(t *testing.T) {
	for _, a := range []impl.Agent{someAgent(), changedAgent(someAgent(), func(a *impl.Agent) { a.Live, a.Granted = false, 0 }), {Id: 1, Epoch: 5, Live: true, Granted: 9}} {
		n := len(a.Sealed)
		for later := -5; later <= 5; later++ {
			for _, kind := range []int{impl.FrAck, impl.FrReset} {
				good := changedFrame(ackFor(a, later, 3), func(f *impl.Frame) { f.Kind = kind })
				off := func(name string, turn func(*impl.Frame)) {
					t.Helper()
					unheard(t, name, a, changedFrame(good, turn), impl.HrBad)
				}
				if _, how := impl.AgentHear(a, good); how == impl.HrBad {
					t.Errorf("AgentHear(%v, %v) = HrBad", a, good)
				}
				off("an FrHello", func(f *impl.Frame) { f.Kind = impl.FrHello })
				off("an FrData", func(f *impl.Frame) { f.Kind, f.Item = impl.FrData, someItem() })
				off("an FrData of its own", func(f *impl.Frame) { f.Kind, f.Item = impl.FrData, sealedItems(1)[0] })
				off("Kind 4", func(f *impl.Frame) { f.Kind = 4 })
				off("Kind -1", func(f *impl.Frame) { f.Kind = -1 })
				off("for agent 0", func(f *impl.Frame) { f.Agent = 0 })
				off("for agent 2", func(f *impl.Frame) { f.Agent = 2 })
				off("for agent 3", func(f *impl.Frame) { f.Agent = 3 })
				off("for agent -1", func(f *impl.Frame) { f.Agent = -1 })
				off("Granted 61", func(f *impl.Frame) { f.Granted = 61 })
				off("Granted -1", func(f *impl.Frame) { f.Granted = -1 })
				off("an item", func(f *impl.Frame) { f.Item = someItem() })
				off("SketchNew", func(f *impl.Frame) { f.Item.Sketch = impl.SketchNew() })
				for _, taken := range append(takenWrong(), spanList(n+1, n+1), spanList(1, n+1), spanList(60, 60), spanList(n+1, 60), spanList(1, 1, n+2, n+2), spanList(n+2, n+2)) {
					off("Taken", func(f *impl.Frame) { f.Taken = taken })
				}
			}
		}
		for _, epoch := range []int{math.MinInt, -1, 1001, math.MaxInt} {
			unheard(t, "an ack of no epoch", a, impl.Frame{Kind: impl.FrAck, Agent: 1, Epoch: epoch}, impl.HrBad)
			unheard(t, "a reset of no epoch", a, impl.Frame{Kind: impl.FrReset, Agent: 1, Epoch: epoch}, impl.HrBad)
		}
	}
}

func TestHearOfWrongFrames(t *testing.T) {
	for name, f := range badFrames() {
		for _, a := range []impl.Agent{fullAgent(), {Sealed: sealedItems(60)}} {
			if f.Agent >= 0 && f.Agent <= 2 {
				a.Id = f.Agent
			}
			unheard(t, name, a, f, impl.HrBad)
		}
	}
	// Its own frames are none that it hears.
	for _, a := range goodAgents() {
		next, f := impl.AgentSend(a)
		unheard(t, "its own frame", next, f, impl.HrBad)
	}
}

func TestHearOfWrongAgents(t *testing.T) {
	for name, a := range badAgents() {
		for _, f := range []impl.Frame{ackFor(a, 0, 3), ackFor(a, 1, 60, 1, 1), ackFor(a, -1, 0), resetFor(a, 0), resetFor(a, 1), {Kind: impl.FrAck}, {Kind: impl.FrReset, Epoch: 1000}, {}, someData(), someAck()} {
			unheard(t, name, a, f, impl.HrBad)
		}
	}
}

// TestTakenAtTheLimitOfWhatIsSealed: the last item may be taken, the one behind it not.
func TestTakenAtTheLimitOfWhatIsSealed(t *testing.T) {
	for n := range 61 {
		a := impl.Agent{Id: 1, Epoch: 2, Live: true, Granted: 60, Sealed: sealedItems(n)}
		for seq := 1; seq <= 60; seq++ {
			for _, f := range []impl.Frame{ackFor(a, 0, 60, seq, seq), resetFor(a, 1, 1, seq)} {
				if seq > n {
					unheard(t, "not sealed", a, f, impl.HrBad)
				} else if got := heardBy(t, a, f); !slices.Equal(got.Taken, f.Taken) {
					t.Errorf("of %d items %v is taken, it knows %v", n, f.Taken, got.Taken)
				}
			}
		}
	}
}

// TestSealedStaysAsItWas: whatever is sent and heard, nothing turns what was sealed.
func TestSealedStaysAsItWas(t *testing.T) {
	for _, a := range goodAgents() {
		for k, f := range framesFor(a) {
			if k%7 != 0 {
				continue
			}
			sealed, seq := impl.Seal(a, 1, 3, 9, heap([]int{77}))
			got, _ := impl.AgentHear(sealed, f)
			got, _ = impl.AgentSend(got)
			want := slices.Clone(a.Sealed)
			if seq > 0 {
				want = append(want, impl.Item{Seq: seq, Class: 1, Key: 3, Window: 9, Sketch: heap([]int{77})})
			}
			if !slices.EqualFunc(got.Sealed, want, exactItem) {
				t.Fatalf("behind %v the items of %v are %v", f, a, got.Sealed)
			}
		}
	}
}

// TestWhatWasTakenIsNeverForgotten: through a long talk with seals, sends, acks and resets of all epochs.
func TestWhatWasTakenIsNeverForgotten(t *testing.T) {
	for start := range 40 {
		seed := uint32(start*7919 + 1)
		draw := func(n int) int {
			seed = seed*1664525 + 1013904223
			return int(seed>>8) % n
		}
		a := impl.Agent{Id: start % 3}
		taken, data := map[int]bool{}, 0
		for step := range 200 {
			want := a
			switch draw(5) {
			case 0:
				a, _ = impl.Seal(a, draw(2), draw(5), draw(21), heap([]int{draw(1000)}))
				want.Sealed = a.Sealed
			case 1, 2:
				next, f := impl.AgentSend(a)
				if f.Kind == impl.FrData {
					data++
					if taken[f.Item.Seq] || f.Item.Seq > a.Granted || !a.Live {
						t.Fatalf("step %d of %d: %v sends %v", step, start, a, f)
					}
				}
				want.Next, a = next.Next, next
			default:
				f := impl.Frame{Kind: impl.FrAck + draw(8)/7, Agent: a.Id, Epoch: max(a.Epoch+draw(4)/3-draw(4)/3, 0), Granted: draw(61)}
				if n := draw(62); n > 0 && n <= 60 {
					f.Taken = spanList(n, n)
				}
				var code int
				next, how := impl.AgentHear(a, f)
				if want, code = hears(a, f); how != code {
					t.Fatalf("step %d of %d: AgentHear(%v, %v) tells %d, want %d", step, start, a, f, how, code)
				}
				if a = next; how == impl.HrOk {
					for _, seq := range numbersOf(f.Taken) {
						taken[seq] = true
					}
				}
			}
			if !exactAgent(a, want) || !impl.AgentOk(a) {
				t.Fatalf("step %d of %d: %v, want %v", step, start, a, want)
			}
			for seq := range taken {
				if !slices.Contains(numbersOf(a.Taken), seq) {
					t.Fatalf("step %d of %d: %v forgets %d", step, start, a, seq)
				}
			}
		}
		if data == 0 || len(taken) == 0 {
			t.Errorf("talk %d: %d items were sent, %d taken", start, data, len(taken))
		}
	}
}

// TestTakenIsSentNoMore: item by item is taken, those that are left come in turn, and at last nothing waits.
func TestTakenIsSentNoMore(t *testing.T) {
	a := impl.Agent{Id: 1, Epoch: 3, Live: true, Granted: 60, Sealed: sealedItems(60)}
	for seq := 60; seq >= 1; seq -= 2 {
		a = heardBy(t, a, ackFor(a, 0, 60, seq, seq))
	}
	for seq := 1; seq <= 59; seq += 2 {
		next, f := impl.AgentSend(a)
		if f.Item.Seq != seq {
			t.Fatalf("%v sends %v, want Seq %d", a, f, seq)
		}
		a = heardBy(t, next, ackFor(next, 0, 60, seq, seq))
	}
	if next, f := impl.AgentSend(a); f.Kind != impl.FrHello || !exactAgent(next, a) || !slices.Equal(a.Taken, spanList(1, 60)) {
		t.Errorf("%v sends %v", a, f)
	}
}

var spareItem = impl.Item{Seq: -77, Class: -78, Key: -79, Window: -80}

// roomyAgent gives every list of an agent spare room with a mark in it.
func roomyAgent(a impl.Agent) impl.Agent {
	list := make([]impl.Item, 0, len(a.Sealed)+2)
	for _, x := range a.Sealed {
		x.Sketch = roomy(x.Sketch)
		list = append(list, x)
	}
	a.Sealed, a.Taken = append(list, spareItem, spareItem)[:len(list)], spareSpans(a.Taken)
	return a
}

// agentAsGiven: the agent is as it was, and so is the room behind its lists.
func agentAsGiven(a, was impl.Agent) bool {
	if !exactAgent(a, was) || !asGiven(a.Taken, was.Taken) {
		return false
	}
	for k := range a.Sealed {
		if !untouched(a.Sealed[k].Sketch, was.Sealed[k].Sketch) {
			return false
		}
	}
	return slices.EqualFunc(a.Sealed[len(a.Sealed):cap(a.Sealed)], []impl.Item{spareItem, spareItem}, exactItem)
}

// scribbleAgent writes over all lists of an answer, and tells whether each was its own.
func scribbleAgent(a impl.Agent) bool {
	was := twinAgent(a)
	overwrite(a.Taken)
	for k := range a.Sealed {
		if !exactItem(a.Sealed[k], was.Sealed[k]) || !scribble(a.Sealed[k].Sketch) {
			return false
		}
	}
	list := a.Sealed[:cap(a.Sealed)]
	for k := range list {
		list[k] = impl.Item{Seq: -1000}
	}
	return true
}

func TestSealSharesNothing(t *testing.T) {
	for _, x := range agentsOfAllSorts() {
		for _, s := range []impl.Sketch{heap([]int{5, 6}), {}, {Hist: []int{1}, Rows: [][]int{nil, {2}}}} {
			given, sketch := roomyAgent(x), roomy(s)
			got, seq := impl.Seal(given, 1, 2, 3, sketch)
			again, _ := impl.Seal(given, 1, 2, 3, sketch)
			was := twinAgent(again)
			if !agentAsGiven(given, x) || !untouched(sketch, s) {
				t.Fatalf("Seal of %v wrote into it", x)
			}
			if !scribbleAgent(got) || !agentAsGiven(given, x) || !untouched(sketch, s) || !exactAgent(again, was) {
				t.Fatalf("Seal of %v, which tells %d: the answer shares memory", x, seq)
			}
		}
	}
}

// TestSealTwiceFromOneAgent: two that come of one agent do not write into each other.
func TestSealTwiceFromOneAgent(t *testing.T) {
	a, _ := impl.Seal(someAgent(), 0, 0, 0, heap([]int{1}))
	one, _ := impl.Seal(a, 0, 1, 1, heap([]int{2}))
	other, _ := impl.Seal(a, 1, 2, 2, heap([]int{3}))
	if len(a.Sealed) != 5 || one.Sealed[5].Key != 1 || other.Sealed[5].Key != 2 || !exactly(one.Sealed[5].Sketch, heap([]int{2})) {
		t.Errorf("%v and %v come of %v", one, other, a)
	}
}

func TestAgentSendSharesNothing(t *testing.T) {
	for _, x := range agentsOfAllSorts() {
		given := roomyAgent(x)
		got, f := impl.AgentSend(given)
		again, frame := impl.AgentSend(given)
		was, wasFrame, wasGot := twinAgent(again), twinFrame(frame), twinAgent(got)
		if !agentAsGiven(given, x) {
			t.Fatalf("AgentSend of %v wrote into it", x)
		}
		overwrite(f.Taken)
		if !scribble(f.Item.Sketch) || !exactAgent(got, wasGot) || !agentAsGiven(given, x) {
			t.Fatalf("AgentSend of %v: the frame shares memory", x)
		}
		if !scribbleAgent(got) || !agentAsGiven(given, x) || !exactAgent(again, was) || !exactFrame(frame, wasFrame) {
			t.Fatalf("AgentSend of %v: the agent shares memory", x)
		}
	}
}

func TestAgentHearSharesNothing(t *testing.T) {
	frames := []impl.Frame{{}, someData(), someAck()}
	for _, x := range agentsOfAllSorts() {
		n := len(x.Sealed)
		for _, y := range append(frames, ackFor(x, 0, 9, 1, n), ackFor(x, 1, 3, n, n), ackFor(x, -1, 3, 1, 1), ackFor(x, 0, 9), resetFor(x, 0, 1, 1), resetFor(x, 1)) {
			given, f := roomyAgent(x), roomyFrame(y)
			got, how := impl.AgentHear(given, f)
			again, _ := impl.AgentHear(given, f)
			was := twinAgent(again)
			if !agentAsGiven(given, x) || !frameAsGiven(f, y) {
				t.Fatalf("AgentHear(%v, %v) wrote into one", x, y)
			}
			if !scribbleAgent(got) || !agentAsGiven(given, x) || !frameAsGiven(f, y) || !exactAgent(again, was) {
				t.Fatalf("AgentHear(%v, %v), which tells %d: the answer shares memory", x, y, how)
			}
		}
	}
}

func TestAskingLeavesTheAgent(t *testing.T) {
	for _, x := range agentsOfAllSorts() {
		given := roomyAgent(x)
		impl.AgentOk(given)
		got, again := impl.Waiting(given), impl.Waiting(given)
		want := slices.Clone(again)
		if !agentAsGiven(given, x) {
			t.Errorf("asking wrote into %v", x)
		}
		got = got[:cap(got)]
		for k := range got {
			got[k] = -1000
		}
		if !agentAsGiven(given, x) || !slices.Equal(again, want) {
			t.Errorf("what waits of %v shares memory", x)
		}
	}
}

func TestEmptyListsOfAnAgent(t *testing.T) {
	empty := impl.Agent{Sealed: []impl.Item{}, Taken: []impl.Span{}}
	if !impl.AgentOk(empty) || len(impl.Waiting(empty)) != 0 {
		t.Error("an agent with empty lists is not as one with none")
	}
	for _, f := range []impl.Frame{{Kind: impl.FrAck, Taken: []impl.Span{}}, {Kind: impl.FrAck}} {
		for _, a := range []impl.Agent{{}, empty} {
			if got := heardBy(t, a, f); !exactAgent(got, impl.Agent{Live: true}) {
				t.Errorf("AgentHear(%v, %v) = %v", a, f, got)
			}
		}
	}
}
