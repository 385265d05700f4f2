package tests

import (
	"bytes"
	"encoding/binary"
	"hash/crc32"
	"math"
	"slices"
	"testing"

	"loop.example/g00491/impl"
)

func exactItem(a, b impl.Item) bool {
	return a.Seq == b.Seq && a.Class == b.Class && a.Key == b.Key && a.Window == b.Window && exactly(a.Sketch, b.Sketch)
}

// exactFrame holds two frames against each other without the program's own FrameSame.
func exactFrame(a, b impl.Frame) bool {
	return a.Kind == b.Kind && a.Agent == b.Agent && a.Epoch == b.Epoch && a.Granted == b.Granted &&
		slices.Equal(a.Taken, b.Taken) && exactItem(a.Item, b.Item)
}

// twinFrame copies a frame of any shape.
func twinFrame(f impl.Frame) impl.Frame {
	f.Taken, f.Item.Sketch = slices.Clone(f.Taken), twin(f.Item.Sketch)
	return f
}

// changedFrame is a twin with one thing turned.
func changedFrame(f impl.Frame, turn func(*impl.Frame)) impl.Frame {
	f = twinFrame(f)
	turn(&f)
	return f
}

func someData() impl.Frame {
	return impl.Frame{Kind: impl.FrData, Agent: 1, Epoch: 300, Granted: 9, Taken: spanList(1, 3, 7, 7), Item: someItem()}
}

func someAck() impl.Frame {
	return impl.Frame{Kind: impl.FrAck, Agent: 2, Epoch: 1000, Granted: 60, Taken: spanList(1, 3, 60, 60)}
}

// takenSets: none, one and several spans, up to as many as there can be.
func takenSets() [][]impl.Span {
	var odd []int
	for n := 1; n <= 60; n += 2 {
		odd = append(odd, n)
	}
	return [][]impl.Span{nil, spanList(1, 1), spanList(60, 60), spanList(1, 60), spanList(5, 9), spanList(1, 1, 60, 60), spanList(2, 4, 6, 6, 8, 59), stretches(odd)}
}

// goodFrames: of each kind with each of takenSets, and of FrData with items of all sorts.
func goodFrames() []impl.Frame {
	all := []impl.Frame{{}, someData(), someAck()}
	for _, taken := range takenSets() {
		for kind := range 4 {
			f := impl.Frame{Kind: kind, Agent: len(taken) % 3, Epoch: 127 + len(taken)%2, Granted: kind, Taken: taken}
			if kind == impl.FrData {
				f.Item = someItem()
			}
			all = append(all, f)
		}
	}
	for k, s := range goodSketches() {
		all = append(all,
			impl.Frame{Kind: impl.FrData, Agent: k % 3, Epoch: 1000, Granted: 60, Taken: takenSets()[k%8], Item: impl.Item{Seq: 60, Class: k % 2, Key: 4, Window: 20, Sketch: s}},
			impl.Frame{Kind: impl.FrData, Item: impl.Item{Seq: 1, Sketch: s}})
	}
	return all
}

// takenWrong: in each of them one number is no Seq, or it is no set.
func takenWrong() [][]impl.Span {
	bad := [][]impl.Span{
		spanList(0, 0), spanList(0, 5), spanList(0, 60), spanList(0, 0, 2, 2), spanList(61, 61), spanList(60, 61), spanList(1, 61), spanList(1, 1, 61, 61), spanList(5, 9, 20, 61), spanList(0, 9999),
		spanList(9999, 9999), spanList(1, 100), spanList(107, 107), spanList(-1, -1), spanList(-1, 5),
		spanList(1, 1, 2, 2), spanList(5, 9, 1, 2), spanList(5, 4), spanList(1, 5, 5, 9), spanList(1, 5, 1, 5), spanList(3, 3, 3, 3), spanList(60, 60, 1, 1), spanList(0, 0, 1, 1),
	}
	return append(bad, badSets()...)
}

// otherItems: none of them is zero.
func otherItems() map[string]impl.Item {
	items := map[string]impl.Item{
		"a Seq alone": {Seq: 1}, "a Class alone": {Class: 1}, "a Key alone": {Key: 1}, "a Window alone": {Window: 1}, "a Seq below 0": {Seq: -1},
		"SketchNew": {Sketch: impl.SketchNew()}, "a Sketch alone": {Sketch: heap([]int{5})}, "an item": someItem(), "a Seq and SketchNew": {Seq: 1, Sketch: impl.SketchNew()},
		"a Count": {Sketch: impl.Sketch{Count: 1}}, "a Sum": {Sketch: impl.Sketch{Sum: 1}}, "a Min": {Sketch: impl.Sketch{Min: 1}}, "a Max": {Sketch: impl.Sketch{Max: 1}},
		"a Hist": {Sketch: impl.Sketch{Hist: []int{0}}}, "Regs": {Sketch: impl.Sketch{Regs: []int{0}}},
		"an empty row": {Sketch: impl.Sketch{Rows: [][]int{nil}}}, "a row": {Sketch: impl.Sketch{Rows: [][]int{{0}}}}, "two empty rows": {Sketch: impl.Sketch{Rows: make([][]int, 2)}},
	}
	for name, x := range badItems() {
		if !exactItem(x, impl.Item{}) {
			items["wrong item: "+name] = x
		}
	}
	return items
}

// badFrames: each is off in one thing alone.
func badFrames() map[string]impl.Frame {
	bad := map[string]impl.Frame{"an FrData and nothing else": {Kind: impl.FrData}}
	for name, f := range map[string]impl.Frame{"data": someData(), "ack": someAck(), "zero": {}} {
		for _, n := range []int{math.MinInt, -256, -1, 4, 5, 257, math.MaxInt} {
			bad[name+": Kind "+impl.Digits(n)] = changedFrame(f, func(f *impl.Frame) { f.Kind = n })
		}
		for _, n := range []int{math.MinInt, -256, -1, 3, 4, 256, math.MaxInt} {
			bad[name+": Agent "+impl.Digits(n)] = changedFrame(f, func(f *impl.Frame) { f.Agent = n })
		}
		for _, n := range []int{math.MinInt, -1, 1001, 1002, 100000, math.MaxInt} {
			bad[name+": Epoch "+impl.Digits(n)] = changedFrame(f, func(f *impl.Frame) { f.Epoch = n })
		}
		for _, n := range []int{math.MinInt, -1, 61, 62, 1000, math.MaxInt} {
			bad[name+": Granted "+impl.Digits(n)] = changedFrame(f, func(f *impl.Frame) { f.Granted = n })
		}
		for k, s := range takenWrong() {
			bad[name+": Taken: wrong set "+impl.Digits(k)] = changedFrame(f, func(f *impl.Frame) { f.Taken = s })
		}
	}
	for name, x := range badItems() {
		bad["data: "+name] = changedFrame(someData(), func(f *impl.Frame) { f.Item = x })
	}
	for name, x := range otherItems() {
		for _, kind := range []int{impl.FrHello, impl.FrAck, impl.FrReset} {
			bad["kind "+impl.Digits(kind)+": "+name] = changedFrame(someAck(), func(f *impl.Frame) { f.Kind, f.Item = kind, x })
		}
	}
	return bad
}

// onWire writes numbers as the document has it, apart from the program's own functions.
func onWire(numbers ...int) []byte {
	var b []byte
	for _, n := range numbers {
		b = binary.AppendUvarint(b, uint64(n))
	}
	return b
}

// withSum puts the check sum behind bytes.
func withSum(b []byte) []byte {
	return binary.BigEndian.AppendUint32(slices.Clone(b), crc32.ChecksumIEEE(b))
}

func marked(b []byte) []byte { return append([]byte("WR"), b...) }

func sketchAsNumbers(s impl.Sketch) []int {
	return slices.Concat([]int{s.Count, s.Sum, s.Min, s.Max}, s.Hist, s.Regs, slices.Concat(s.Rows...))
}

func itemAsNumbers(x impl.Item) []int {
	return append([]int{x.Seq, x.Class, x.Key, x.Window}, sketchAsNumbers(x.Sketch)...)
}

// headAsNumbers is all that stands ahead of an item.
func headAsNumbers(f impl.Frame) []int {
	list := []int{f.Kind, f.Agent, f.Epoch, f.Granted, len(f.Taken)}
	for _, x := range f.Taken {
		list = append(list, x.Lo, x.Hi)
	}
	return list
}

func frameAsNumbers(f impl.Frame) []int {
	if f.Kind == impl.FrData {
		return append(headAsNumbers(f), itemAsNumbers(f.Item)...)
	}
	return headAsNumbers(f)
}

// asAnother: the lists have other lengths, but as many numbers in all, so that the bytes are those of another sketch.
func asAnother(s impl.Sketch) bool {
	shaped := len(s.Hist) == 8 && len(s.Regs) == 8 && len(s.Rows) == 2 && len(s.Rows[0]) == 4
	return !shaped && len(sketchAsNumbers(s)) == 28
}

func writable(numbers []int) bool {
	return !slices.ContainsFunc(numbers, func(n int) bool { return n < 0 || n > 2147483647 })
}

// noFrame: these bytes are not read.
func noFrame(t *testing.T, name string, b []byte) {
	t.Helper()
	if got, ok := impl.FrameOf(b); ok || !exactFrame(got, impl.Frame{}) {
		t.Errorf("%s: FrameOf(%v) = %v, %v, want zero, false", name, b, got, ok)
	}
}

// noSketch: these bytes are not read.
func noSketch(t *testing.T, name string, b []byte) {
	t.Helper()
	if got, ok := impl.SketchOf(b); ok || !exactly(got, impl.Sketch{}) {
		t.Errorf("%s: SketchOf(%v) = %v, %v, want zero, false", name, b, got, ok)
	}
}

func TestFrameConstants(t *testing.T) {
	if impl.FrHello != 0 || impl.FrData != 1 || impl.FrAck != 2 || impl.FrReset != 3 || impl.MaxEpoch != 1000 {
		t.Errorf("FrHello, FrData, FrAck, FrReset, MaxEpoch = %d, %d, %d, %d, %d", impl.FrHello, impl.FrData, impl.FrAck, impl.FrReset, impl.MaxEpoch)
	}
}

func TestFrameOk(t *testing.T) {
	for _, f := range goodFrames() {
		if !impl.FrameOk(f) {
			t.Errorf("FrameOk(%v) = false", f)
		}
	}
	for name, f := range badFrames() {
		if impl.FrameOk(f) {
			t.Errorf("%s: FrameOk(%v) = true", name, f)
		}
	}
}

func TestFrameOkAtTheLimits(t *testing.T) {
	for n := -3; n <= 1010; n++ {
		for name, x := range map[string]struct {
			f    impl.Frame
			want bool
		}{
			"Kind without an item": {impl.Frame{Kind: n}, n == 0 || n == 2 || n == 3},
			"Kind with an item":    {changedFrame(someData(), func(f *impl.Frame) { f.Kind = n }), n == 1},
			"Agent":                {changedFrame(someData(), func(f *impl.Frame) { f.Agent = n }), n >= 0 && n <= 2},
			"Agent of an ack":      {changedFrame(someAck(), func(f *impl.Frame) { f.Agent = n }), n >= 0 && n <= 2},
			"Epoch":                {changedFrame(someData(), func(f *impl.Frame) { f.Epoch = n }), n >= 0 && n <= 1000},
			"Epoch of a hello":     {impl.Frame{Epoch: n}, n >= 0 && n <= 1000},
			"Granted":              {changedFrame(someData(), func(f *impl.Frame) { f.Granted = n }), n >= 0 && n <= 60},
			"Granted of a reset":   {impl.Frame{Kind: impl.FrReset, Granted: n}, n >= 0 && n <= 60},
			"Taken":                {impl.Frame{Kind: impl.FrAck, Taken: spanList(n, n)}, n >= 1 && n <= 60},
			"Taken from it on":     {impl.Frame{Kind: impl.FrAck, Taken: spanList(n, 60)}, n >= 1 && n <= 60},
			"Taken up to it":       {impl.Frame{Kind: impl.FrAck, Taken: spanList(1, n)}, n >= 1 && n <= 60},
			"Taken behind another": {impl.Frame{Kind: impl.FrHello, Taken: spanList(5, 7, n, n)}, n >= 9 && n <= 60},
			"Taken above Granted":  {impl.Frame{Kind: impl.FrAck, Granted: 1, Taken: spanList(n, n)}, n >= 1 && n <= 60},
			"an item above it":     {changedFrame(someData(), func(f *impl.Frame) { f.Granted, f.Item.Seq = 0, n }), n >= 1 && n <= 60},
			"an item that it has":  {changedFrame(someData(), func(f *impl.Frame) { f.Taken, f.Item.Seq = spanList(1, 60), n }), n >= 1 && n <= 60},
		} {
			if got := impl.FrameOk(x.f); got != x.want {
				t.Errorf("%s %d: FrameOk(%v) = %v", name, n, x.f, got)
			}
		}
	}
}

// TestItemsOfOtherKinds: zero is what has no numbers and no lists; a summary of no numbers has lists.
func TestItemsOfOtherKinds(t *testing.T) {
	empty := impl.Item{Sketch: impl.Sketch{Hist: []int{}, Regs: make([]int, 0, 8), Rows: [][]int{}}}
	for kind := -1; kind <= 4; kind++ {
		for name, x := range otherItems() {
			f := impl.Frame{Kind: kind, Item: x}
			want := kind == impl.FrData && (name == "an item" || name == "a Seq and SketchNew")
			if got := impl.FrameOk(f); got != want || !want && len(impl.FrameBytes(f)) != 0 {
				t.Errorf("kind %d, %s: FrameOk = %v, FrameBytes = %v", kind, name, got, impl.FrameBytes(f))
			}
		}
		for _, x := range []impl.Item{{}, empty} {
			f := impl.Frame{Kind: kind, Item: x}
			want := kind == impl.FrHello || kind == impl.FrAck || kind == impl.FrReset
			if got := impl.FrameOk(f); got != want || want != (len(impl.FrameBytes(f)) > 0) {
				t.Errorf("kind %d, zero %v: FrameOk = %v, FrameBytes = %v", kind, x, got, impl.FrameBytes(f))
			}
		}
	}
}

func TestSketchBytes(t *testing.T) {
	hundred := []byte{1, 100, 100, 100, 0, 0, 0, 1, 0, 0, 0, 0, 4, 0, 0, 0, 0, 0, 0, 0, 1, 0, 0, 0, 0, 0, 0, 1}
	if got := impl.SketchBytes(impl.Sketched([]int{100})); !bytes.Equal(got, hundred) {
		t.Errorf("SketchBytes of 100 = %v, want %v", got, hundred)
	}
	if got := impl.SketchBytes(impl.SketchNew()); !bytes.Equal(got, make([]byte, 28)) {
		t.Errorf("SketchBytes(SketchNew()) = %v", got)
	}
	// every number another one, so that none can stand in another one's place
	all := impl.Sketch{Count: 1000, Sum: 200000, Min: 3, Max: 1000000, Hist: []int{31, 32, 33, 34, 35, 36, 37, 1000000000}, Regs: []int{1, 2, 3, 4, 5, 6, 7, 17}, Rows: [][]int{{51, 52, 53, 54}, {61, 62, 63, 16384}}}
	want := []byte{232, 7, 192, 154, 12, 3, 192, 132, 61, 31, 32, 33, 34, 35, 36, 37, 128, 148, 235, 220, 3, 1, 2, 3, 4, 5, 6, 7, 17, 51, 52, 53, 54, 61, 62, 63, 128, 128, 1}
	if got := impl.SketchBytes(all); !bytes.Equal(got, want) {
		t.Errorf("SketchBytes(%v) = %v, want %v", all, got, want)
	}
	for _, s := range append(goodSketches(), all) {
		b := impl.SketchBytes(s)
		if !bytes.Equal(b, onWire(sketchAsNumbers(s)...)) {
			t.Errorf("SketchBytes(%v) = %v", s, b)
		}
		if got, ok := impl.SketchOf(b); !ok || !exactly(got, s) || !impl.SketchSame(got, s) || !bytes.Equal(impl.SketchBytes(got), b) {
			t.Errorf("SketchOf(%v) = %v, %v, want %v", b, got, ok, s)
		}
	}
	for name, s := range badSketches() {
		if got := impl.SketchBytes(s); len(got) != 0 {
			t.Errorf("%s: SketchBytes(%v) = %v, want nothing", name, s, got)
		}
	}
}

func TestSketchOfOtherLengths(t *testing.T) {
	noSketch(t, "nil", nil)
	noSketch(t, "no bytes", []byte{})
	for _, s := range goodSketches() {
		numbers := sketchAsNumbers(s)
		b := onWire(numbers...)
		for k := range b {
			noSketch(t, "cut short", b[:k])
		}
		for k := range numbers {
			noSketch(t, "cut at its begin", onWire(numbers[k+1:]...))
			noSketch(t, "a number fewer inside", onWire(slices.Delete(slices.Clone(numbers), k, k+1)...))
			noSketch(t, "a number more inside", onWire(slices.Insert(slices.Clone(numbers), k, 0)...))
		}
		for c := range 256 {
			noSketch(t, "a byte more", append(slices.Clone(b), byte(c)))
		}
		noSketch(t, "twice", append(slices.Clone(b), b...))
	}
	for n := range 80 {
		if n != 28 {
			noSketch(t, "noughts", make([]byte, n))
		}
	}
}

func TestSketchOfWrongContent(t *testing.T) {
	count := 0
	for name, s := range badSketches() {
		if numbers := sketchAsNumbers(s); writable(numbers) && !asAnother(s) {
			count++
			noSketch(t, name, onWire(numbers...))
		}
	}
	if count < 50 {
		t.Errorf("only %d wrong sketches could be written", count)
	}
	good := sketchAsNumbers(heap([]int{5, 100, 5}))
	for k := range good {
		for _, n := range []uint64{1000000001, 2147483647, 2147483648, 1 << 34, 1 << 35, 1 << 63} {
			b := append(binary.AppendUvarint(onWire(good[:k]...), n), onWire(good[k+1:]...)...)
			noSketch(t, "a number too great", b)
		}
		noSketch(t, "a number too long", slices.Concat(onWire(good[:k]...), tooLong(good[k]), onWire(good[k+1:]...)))
	}
}

// tooLong writes a number with a byte more than it takes.
func tooLong(n int) []byte {
	b := onWire(n)
	b[len(b)-1] += 128
	return append(b, 0)
}

// TestSketchOfTakesOneFormOnly: without a check sum another byte may be another sketch, but then it is the one of these bytes.
func TestSketchOfTakesOneFormOnly(t *testing.T) {
	for _, s := range goodSketches() {
		b := impl.SketchBytes(s)
		for k := range b {
			for d := 1; d < 256; d++ {
				other := slices.Clone(b)
				other[k] ^= byte(d)
				got, ok := impl.SketchOf(other)
				if ok && (!impl.SketchOk(got) || !bytes.Equal(onWire(sketchAsNumbers(got)...), other)) || !ok && !exactly(got, impl.Sketch{}) {
					t.Fatalf("SketchOf(%v) = %v, %v", other, got, ok)
				}
			}
		}
	}
}

func TestFrameBytes(t *testing.T) {
	hundred := impl.Item{Seq: 4, Class: 1, Key: 2, Window: 20, Sketch: heap([]int{100})}
	for _, x := range []struct {
		f    impl.Frame
		want []byte
	}{
		{impl.Frame{}, []byte{87, 82, 0, 0, 0, 0, 0, 58, 88, 161, 187}},
		{impl.Frame{Agent: 2}, []byte{87, 82, 0, 2, 0, 0, 0, 144, 81, 105, 48}},
		{impl.Frame{Kind: 2, Agent: 1, Epoch: 1000, Granted: 60, Taken: spanList(1, 3, 60, 60)}, []byte{87, 82, 2, 1, 232, 7, 60, 2, 1, 3, 60, 60, 122, 230, 157, 223}},
		{impl.Frame{Kind: 3, Epoch: 128, Taken: spanList(7, 7)}, []byte{87, 82, 3, 0, 128, 1, 0, 1, 7, 7, 153, 94, 207, 111}},
		{impl.Frame{Kind: 1, Agent: 2, Epoch: 300, Granted: 9, Taken: spanList(1, 3), Item: hundred}, []byte{
			87, 82, 1, 2, 172, 2, 9, 1, 1, 3, 4, 1, 2, 20, 1, 100, 100, 100, 0, 0, 0, 1, 0, 0, 0, 0, 4, 0, 0, 0, 0, 0, 0, 0, 1, 0, 0, 0, 0, 0, 0, 1, 14, 26, 78, 151}},
	} {
		if got := impl.FrameBytes(x.f); !bytes.Equal(got, x.want) {
			t.Errorf("FrameBytes(%v) = %v, want %v", x.f, got, x.want)
		}
		if got, ok := impl.FrameOf(x.want); !ok || !exactFrame(got, x.f) {
			t.Errorf("FrameOf(%v) = %v, %v, want %v", x.want, got, ok, x.f)
		}
	}
	for name, f := range badFrames() {
		if got := impl.FrameBytes(f); len(got) != 0 {
			t.Errorf("%s: FrameBytes(%v) = %v, want nothing", name, f, got)
		}
	}
}

func TestFramesAreReadAsTheyWere(t *testing.T) {
	for _, f := range goodFrames() {
		b := impl.FrameBytes(f)
		if want := withSum(marked(onWire(frameAsNumbers(f)...))); !bytes.Equal(b, want) {
			t.Errorf("FrameBytes(%v) = %v, want %v", f, b, want)
		}
		got, ok := impl.FrameOf(b)
		if !ok || !exactFrame(got, f) || !impl.FrameSame(got, f) || !impl.FrameOk(got) {
			t.Errorf("FrameOf(%v) = %v, %v, want %v", b, got, ok, f)
		}
		if again := impl.FrameBytes(got); !bytes.Equal(again, b) {
			t.Errorf("FrameBytes of what %v was read as = %v", b, again)
		}
	}
}

// TestFramesOfEachNumber goes through all that each number may be, with and without an item.
func TestFramesOfEachNumber(t *testing.T) {
	check := func(f impl.Frame) {
		t.Helper()
		if got, ok := impl.FrameOf(impl.FrameBytes(f)); !ok || !exactFrame(got, f) {
			t.Errorf("%v is read as %v, %v", f, got, ok)
		}
	}
	for _, f := range []impl.Frame{someData(), someAck(), {}, {Kind: impl.FrReset}} {
		for n := range 3 {
			check(changedFrame(f, func(f *impl.Frame) { f.Agent = n }))
		}
		for n := range 1001 {
			check(changedFrame(f, func(f *impl.Frame) { f.Epoch = n }))
		}
		for n := range 61 {
			check(changedFrame(f, func(f *impl.Frame) { f.Granted = n }))
		}
		for lo := 1; lo <= 60; lo++ {
			for hi := lo; hi <= 60; hi++ {
				check(changedFrame(f, func(f *impl.Frame) { f.Taken = spanList(lo, hi) }))
			}
		}
		for _, taken := range smallSets(1, 7) {
			check(changedFrame(f, func(f *impl.Frame) { f.Taken = taken }))
		}
	}
	for class := range 2 {
		for key := range 5 {
			for window := range 21 {
				check(changedFrame(someData(), func(f *impl.Frame) { f.Item.Class, f.Item.Key, f.Item.Window = class, key, window }))
			}
		}
	}
	for seq := 1; seq <= 60; seq++ {
		check(changedFrame(someData(), func(f *impl.Frame) { f.Item.Seq = seq }))
	}
}

func TestOneByteThatIsAnotherOneIsTold(t *testing.T) {
	for _, f := range goodFrames() {
		b := impl.FrameBytes(f)
		for k := range b {
			for d := 1; d < 256; d++ {
				spoilt := slices.Clone(b)
				spoilt[k] ^= byte(d)
				noFrame(t, "another byte", spoilt)
			}
		}
	}
}

func TestFrameOfOtherLengths(t *testing.T) {
	noFrame(t, "nil", nil)
	noFrame(t, "no bytes", []byte{})
	noFrame(t, "the Crc of no bytes", []byte{0, 0, 0, 0})
	noFrame(t, "the Crc of no bytes behind the mark", withSum([]byte("WR")))
	for n := range 40 {
		noFrame(t, "noughts", make([]byte, n))
	}
	for _, f := range goodFrames() {
		b := impl.FrameBytes(f)
		body := b[:len(b)-4]
		for k := range b {
			noFrame(t, "cut short", b[:k])
			noFrame(t, "cut at its begin", b[k+1:])
		}
		for k := range body {
			noFrame(t, "cut short, with a Crc", withSum(body[:k]))
		}
		for c := range 256 {
			noFrame(t, "a byte more", append(slices.Clone(b), byte(c)))
			noFrame(t, "a byte more ahead", append([]byte{byte(c)}, b...))
			noFrame(t, "a byte more, with a Crc", withSum(append(slices.Clone(body), byte(c))))
			noFrame(t, "a byte more ahead of the mark, with a Crc", withSum(append([]byte{byte(c)}, body...)))
		}
		noFrame(t, "a Crc more", withSum(b))
		noFrame(t, "twice", append(slices.Clone(b), b...))
		noFrame(t, "twice, with a Crc", withSum(append(slices.Clone(body), body...)))
	}
}

func TestFrameOfOtherMarksAndSums(t *testing.T) {
	for _, f := range goodFrames() {
		numbers := onWire(frameAsNumbers(f)...)
		for _, mark := range []string{"", "W", "R", "RW", "wr", "Wr", "wR", "WRR", "WWR", "WR ", " WR", "W\x00R", "\x00\x00", "\xd7\xd2"} {
			noFrame(t, "the mark "+mark, withSum(append([]byte(mark), numbers...)))
		}
		body := marked(numbers)
		sum := crc32.ChecksumIEEE(body)
		for name, b := range map[string][]byte{
			"the low byte first":      binary.LittleEndian.AppendUint32(slices.Clone(body), sum),
			"turned round":            binary.BigEndian.AppendUint32(slices.Clone(body), ^sum),
			"one more":                binary.BigEndian.AppendUint32(slices.Clone(body), sum+1),
			"nought":                  append(slices.Clone(body), 0, 0, 0, 0),
			"without the mark":        binary.BigEndian.AppendUint32(slices.Clone(body), crc32.ChecksumIEEE(numbers)),
			"as a number":             append(slices.Clone(body), onWire(int(sum))...),
			"ahead of all":            append(binary.BigEndian.AppendUint32(nil, sum), body...),
			"of another kind of sum":  binary.BigEndian.AppendUint32(slices.Clone(body), crc32.Checksum(body, crc32.MakeTable(crc32.Castagnoli))),
			"behind the mark, inside": append([]byte("WR"), withSum(numbers)...),
		} {
			noFrame(t, "the Crc "+name, b)
		}
	}
}

// TestFrameOfNumbersInAnotherForm: each number in turn has a byte too many, or is none that can be written.
func TestFrameOfNumbersInAnotherForm(t *testing.T) {
	for _, f := range []impl.Frame{{}, someData(), someAck(), {Kind: impl.FrReset, Taken: spanList(5, 6)}} {
		numbers := frameAsNumbers(f)
		for k, n := range numbers {
			ahead, behind := onWire(numbers[:k]...), onWire(numbers[k+1:]...)
			for name, form := range map[string][]byte{
				"too long":              tooLong(n),
				"too long by two":       append(tooLong(n)[:len(tooLong(n))-1], 128, 0),
				"above 32 bits":         binary.AppendUvarint(nil, uint64(n)+1<<32),
				"above 64 bits":         {255, 255, 255, 255, 255, 255, 255, 255, 255, 255, 1},
				"just above its limit":  onWire(2147483648),
				"without an end":        {128},
				"of no bytes":           nil,
				"one that is far above": onWire(2147483647),
			} {
				noFrame(t, "number "+impl.Digits(k)+" "+name, withSum(marked(slices.Concat(ahead, form, behind))))
			}
		}
	}
}

// TestFrameOfWrongContent: the check sum is right and every number is one, but they are not those of a frame.
func TestFrameOfWrongContent(t *testing.T) {
	refuse := func(name string, numbers ...int) {
		t.Helper()
		noFrame(t, name, withSum(marked(onWire(numbers...))))
	}
	count := 0
	for name, f := range badFrames() {
		numbers := frameAsNumbers(f)
		if f.Kind != impl.FrData && f.Kind >= 0 && f.Kind <= 3 && !exactItem(f.Item, impl.Item{}) {
			numbers = append(numbers, itemAsNumbers(f.Item)...)
		}
		if writable(numbers) && (f.Kind != impl.FrData || !asAnother(f.Item.Sketch)) {
			count++
			refuse(name, numbers...)
		}
	}
	if count < 200 {
		t.Errorf("only %d wrong frames could be written", count)
	}
	item := itemAsNumbers(someItem())
	for _, f := range goodFrames() {
		head := headAsNumbers(f)
		if f.Kind == impl.FrData {
			refuse("no item", head...)
			refuse("an item twice", slices.Concat(head, item, item)...)
			refuse("an item without a Sketch", append(slices.Clone(head), item[:4]...)...)
			refuse("a Sketch alone", append(slices.Clone(head), item[4:]...)...)
			continue
		}
		refuse("an item of another kind", append(slices.Clone(head), item...)...)
		refuse("a zero item of another kind", append(slices.Clone(head), make([]int, 32)...)...)
		refuse("a nought behind it", append(slices.Clone(head), 0)...)
	}
}

// TestFrameOfSpansThatAreNotThere: how many are told is not how many there are.
func TestFrameOfSpansThatAreNotThere(t *testing.T) {
	for _, f := range goodFrames() {
		for _, told := range []int{0, 1, 2, 3, 4, 7, 8, 29, 30, 31, 32, 60, 1000, 1 << 30, 2147483646, 2147483647} {
			if told == len(f.Taken) {
				continue
			}
			numbers := frameAsNumbers(f)
			numbers[4] = told
			noFrame(t, "spans", withSum(marked(onWire(numbers...))))
			// Without any span and any item it would be a frame.
			if told > 0 {
				noFrame(t, "spans behind the end", withSum(marked(onWire(numbers[:5]...))))
			}
		}
		half := append(headAsNumbers(f), 60)
		half[4]++
		noFrame(t, "half a span", withSum(marked(onWire(half...))))
	}
}

// TestFrameOfTakesOneFormOnly: whatever is read from any bytes with a right check sum is the frame of these bytes.
func TestFrameOfTakesOneFormOnly(t *testing.T) {
	taken := 0
	for _, f := range goodFrames() {
		b := impl.FrameBytes(f)
		for k := range len(b) - 4 {
			for d := 1; d < 256; d++ {
				body := slices.Clone(b[:len(b)-4])
				body[k] ^= byte(d)
				other := withSum(body)
				got, ok := impl.FrameOf(other)
				if !ok {
					if !exactFrame(got, impl.Frame{}) {
						t.Fatalf("FrameOf(%v) = %v, false", other, got)
					}
					continue
				}
				taken++
				if !impl.FrameOk(got) || !bytes.Equal(withSum(marked(onWire(frameAsNumbers(got)...))), other) || impl.FrameSame(got, f) {
					t.Fatalf("FrameOf(%v) = %v, true", other, got)
				}
			}
		}
	}
	if taken == 0 {
		t.Error("nothing was read")
	}
}

func TestFrameSame(t *testing.T) {
	all := goodFrames()
	for name, f := range badFrames() {
		// A part of the wrong ones is enough for all pairs.
		if len(name)%4 == 0 {
			all = append(all, f)
		}
	}
	for _, a := range all {
		if !impl.FrameSame(a, twinFrame(a)) {
			t.Errorf("FrameSame(%v, a twin of it) = false", a)
		}
		for _, b := range all {
			if got, want := impl.FrameSame(a, b), exactFrame(a, b); got != want {
				t.Errorf("FrameSame(%v, %v) = %v, want %v", a, b, got, want)
			}
		}
	}
}

func TestFrameSameTellsEachNumber(t *testing.T) {
	wrong := impl.Frame{Kind: 9, Agent: -3, Epoch: 5000, Granted: 99, Taken: spanList(5, 3, 3, 5), Item: impl.Item{Seq: -1, Class: 7, Key: 8, Window: 99, Sketch: fullSketch()}}
	for _, f := range []impl.Frame{someData(), wrong, {Kind: impl.FrAck, Taken: spanList(1, 1), Item: someItem()}} {
		turns := []func(*impl.Frame){
			func(f *impl.Frame) { f.Kind++ },
			func(f *impl.Frame) { f.Agent++ },
			func(f *impl.Frame) { f.Epoch++ },
			func(f *impl.Frame) { f.Granted++ },
			func(f *impl.Frame) { f.Taken = append(f.Taken, impl.Span{}) },
			func(f *impl.Frame) { f.Taken = f.Taken[1:] },
			func(f *impl.Frame) { f.Taken = nil },
			func(f *impl.Frame) { f.Item = impl.Item{} },
			func(f *impl.Frame) { f.Item.Seq++ },
			func(f *impl.Frame) { f.Item.Class++ },
			func(f *impl.Frame) { f.Item.Key++ },
			func(f *impl.Frame) { f.Item.Window++ },
			func(f *impl.Frame) { f.Item.Sketch = impl.Sketch{} },
			func(f *impl.Frame) { f.Item.Sketch.Count++ },
			func(f *impl.Frame) { f.Item.Sketch.Sum++ },
			func(f *impl.Frame) { f.Item.Sketch.Min++ },
			func(f *impl.Frame) { f.Item.Sketch.Max++ },
			func(f *impl.Frame) { f.Item.Sketch.Hist[7]++ },
			func(f *impl.Frame) { f.Item.Sketch.Regs[7]++ },
			func(f *impl.Frame) { f.Item.Sketch.Rows[0][3]++ },
			func(f *impl.Frame) { f.Item.Sketch.Rows[1][3]++ },
		}
		for k := range f.Taken {
			turns = append(turns, func(f *impl.Frame) { f.Taken[k].Lo-- }, func(f *impl.Frame) { f.Taken[k].Hi++ })
		}
		for k, turn := range turns {
			other := changedFrame(f, turn)
			if impl.FrameSame(f, other) || impl.FrameSame(other, f) {
				t.Errorf("turn %d: FrameSame(%v, %v) = true", k, f, other)
			}
		}
	}
}

func TestFrameSameOfEmptyLists(t *testing.T) {
	empty := impl.Frame{Taken: []impl.Span{}, Item: impl.Item{Sketch: impl.Sketch{Hist: []int{}, Regs: []int{}, Rows: [][]int{}}}}
	if !impl.FrameSame(impl.Frame{}, empty) || !impl.FrameSame(empty, impl.Frame{}) {
		t.Error("an empty list and nil are not the same")
	}
	if !bytes.Equal(impl.FrameBytes(empty), impl.FrameBytes(impl.Frame{})) || len(impl.FrameBytes(empty)) == 0 {
		t.Error("an empty list and nil are not written alike")
	}
	if impl.FrameSame(impl.Frame{}, impl.Frame{Item: impl.Item{Sketch: impl.SketchNew()}}) || impl.FrameSame(impl.Frame{}, impl.Frame{Taken: make([]impl.Span, 1)}) {
		t.Error("noughts and nothing are the same")
	}
}

// roomyFrame gives every list of a frame spare room with a mark in it.
func roomyFrame(f impl.Frame) impl.Frame {
	f.Taken, f.Item.Sketch = spareSpans(f.Taken), roomy(f.Item.Sketch)
	return f
}

// frameAsGiven: the frame is as it was, and so is the room behind its lists.
func frameAsGiven(f, was impl.Frame) bool {
	return exactFrame(f, was) && asGiven(f.Taken, was.Taken) && untouched(f.Item.Sketch, was.Item.Sketch)
}

// spareBytes is a list with marked room behind it.
func spareBytes(b []byte) []byte {
	out := append(make([]byte, 0, len(b)+8), b...)
	return append(out, 71, 72, 73, 74, 75, 76, 77, 78)[:len(b)]
}

// bytesAsGiven: the list is as it was, and so is the room behind it.
func bytesAsGiven(b, was []byte) bool {
	return bytes.Equal(b, was) && bytes.Equal(b[:len(b)+8][len(b):], []byte{71, 72, 73, 74, 75, 76, 77, 78})
}

// scribbleBytes writes over all of an answer, and the room behind it.
func scribbleBytes(b []byte) {
	b = b[:cap(b)]
	for k := range b {
		b[k] = 255
	}
}

func TestWritingLeavesTheFrame(t *testing.T) {
	all := goodFrames()
	for _, f := range badFrames() {
		all = append(all, f)
	}
	for _, f := range all {
		given, other := roomyFrame(f), roomyFrame(someData())
		impl.FrameOk(given)
		impl.FrameSame(given, other)
		impl.FrameSame(other, given)
		impl.FrameSame(given, given)
		first, second := impl.FrameBytes(given), impl.FrameBytes(given)
		third, fourth := impl.SketchBytes(given.Item.Sketch), impl.SketchBytes(given.Item.Sketch)
		if !frameAsGiven(given, f) || !frameAsGiven(other, someData()) {
			t.Errorf("writing wrote into %v", f)
		}
		wasSecond, wasFourth := slices.Clone(second), slices.Clone(fourth)
		scribbleBytes(first)
		scribbleBytes(third)
		if !bytes.Equal(second, wasSecond) || !bytes.Equal(fourth, wasFourth) || !bytes.Equal(impl.FrameBytes(given), wasSecond) || !frameAsGiven(given, f) {
			t.Errorf("what is written of %v shares memory", f)
		}
	}
}

func TestReadingSharesNothing(t *testing.T) {
	for _, f := range goodFrames() {
		b := impl.FrameBytes(f)
		given := spareBytes(b)
		got, ok := impl.FrameOf(given)
		again, _ := impl.FrameOf(given)
		if !ok || !bytesAsGiven(given, b) {
			t.Errorf("FrameOf(%v) wrote into it", b)
		}
		overwrite(got.Taken)
		own := scribble(got.Item.Sketch)
		if !own || !bytesAsGiven(given, b) || !exactFrame(again, f) {
			t.Errorf("FrameOf(%v): the answer shares memory", b)
		}
		scribbleBytes(given)
		if !exactFrame(again, f) {
			t.Errorf("FrameOf(%v): the answer hangs on the bytes", b)
		}
	}
	for _, s := range goodSketches() {
		b := impl.SketchBytes(s)
		given := spareBytes(b)
		got, ok := impl.SketchOf(given)
		again, _ := impl.SketchOf(given)
		if !ok || !bytesAsGiven(given, b) {
			t.Errorf("SketchOf(%v) wrote into it", b)
		}
		if !scribble(got) || !bytesAsGiven(given, b) || !exactly(again, s) {
			t.Errorf("SketchOf(%v): the answer shares memory", b)
		}
	}
}

func TestReadingLeavesWrongBytes(t *testing.T) {
	for _, f := range []impl.Frame{{}, someData(), someAck()} {
		b := impl.FrameBytes(f)
		for end := range len(b) + 1 {
			for _, part := range [][]byte{b[:end], withSum(b[:end]), b[end:]} {
				given := spareBytes(part)
				impl.FrameOf(given)
				impl.SketchOf(given)
				if !bytesAsGiven(given, part) {
					t.Errorf("reading %v wrote into it", part)
				}
			}
		}
	}
}
