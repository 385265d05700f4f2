package tests

import (
	"bytes"
	"hash/crc32"
	"math"
	"slices"
	"strings"
	"testing"

	"loop.example/g00491/impl"
)

const maxWritten = 2147483647

// writtenNums: numbers and their bytes, on both sides of each length.
func writtenNums() map[int][]byte {
	return map[int][]byte{
		0:          {0},
		1:          {1},
		127:        {127},
		128:        {128, 1},
		300:        {172, 2},
		16383:      {255, 127},
		16384:      {128, 128, 1},
		2097151:    {255, 255, 127},
		2097152:    {128, 128, 128, 1},
		268435455:  {255, 255, 255, 127},
		268435456:  {128, 128, 128, 128, 1},
		maxWritten: {255, 255, 255, 255, 7},
	}
}

func TestDigits(t *testing.T) {
	for n, want := range map[int]string{
		0:             "0",
		7:             "7",
		10:            "10",
		-1:            "-1",
		-70:           "-70",
		999999:        "999999",
		1000000:       "1000000",
		math.MaxInt64: "9223372036854775807",
		math.MinInt64: "-9223372036854775808",
	} {
		if got := impl.Digits(n); got != want {
			t.Errorf("Digits(%d) = %q, want %q", n, got, want)
		}
	}
}

func TestNumberReadsWhatDigitsWrites(t *testing.T) {
	for n := 0; n <= 999999; n++ {
		if got, ok := impl.Number(impl.Digits(n)); got != n || !ok {
			t.Fatalf("Number(Digits(%d)) = %d, %v", n, got, ok)
		}
	}
}

func TestNumberRefuses(t *testing.T) {
	for _, s := range []string{
		"", " ", "-", "+", "-0", "+0", "-1", "-70", "+1", "00", "01", "012", "0000000", "0999999",
		" 1", "1 ", "1 2", "\t1", "1\n", "1\x00", "a", "1a", "a1", "0x1", "1_0", "1.0", "1e3", "٣",
		"1000000", "9999999", "2147483648", "9223372036854775807", "9223372036854775808",
		"-9223372036854775808", "18446744073709551617", strings.Repeat("9", 1000), strings.Repeat("0", 1000),
	} {
		if n, ok := impl.Number(s); n != 0 || ok {
			t.Errorf("Number(%q) = %d, %v, want 0, false", s, n, ok)
		}
	}
}

func TestPutNum(t *testing.T) {
	for n, want := range writtenNums() {
		if got := impl.PutNum(n); !bytes.Equal(got, want) {
			t.Errorf("PutNum(%d) = %v, want %v", n, got, want)
		}
	}
	for _, n := range []int{-1, -128, math.MinInt64, maxWritten + 1, 1 << 32, 1<<35 - 1, math.MaxInt64} {
		if got := impl.PutNum(n); len(got) != 0 {
			t.Errorf("PutNum(%d) = %v, want nothing", n, got)
		}
	}
}

func checkNum(t *testing.T, b []byte, at int, n int, next int, ok bool) {
	t.Helper()
	if gotN, gotNext, gotOk := impl.GetNum(b, at); gotN != n || gotNext != next || gotOk != ok {
		t.Errorf("GetNum(%v, %d) = %d, %d, %v, want %d, %d, %v", b, at, gotN, gotNext, gotOk, n, next, ok)
	}
}

func TestGetNumReadsWhatPutNumWrites(t *testing.T) {
	for n, b := range writtenNums() {
		checkNum(t, b, 0, n, len(b), true)
		// Bytes ahead and behind that would be part of a number, were they read.
		in := slices.Concat([]byte{200, 129, 255}, b, []byte{255, 1})
		checkNum(t, in, 3, n, 3+len(b), true)
	}
	for n := 0; n < maxWritten-9973; n += 9973 {
		b := impl.PutNum(n)
		checkNum(t, b, 0, n, len(b), true)
	}
}

func TestGetNumRefuses(t *testing.T) {
	for _, b := range [][]byte{
		{},
		{128}, {255}, {128, 128}, {255, 255, 255, 255}, {255, 255, 255, 255, 255},
		{128, 0}, {255, 0}, {129, 128, 0}, {128, 128, 0}, {128, 128, 128, 0}, {255, 255, 255, 255, 0},
		{128, 128, 128, 128, 8}, {255, 255, 255, 255, 8}, {128, 128, 128, 128, 16}, {255, 255, 255, 255, 127},
		{128, 128, 128, 128, 128, 0}, {128, 128, 128, 128, 128, 1}, {129, 128, 128, 128, 128, 0},
		{128, 128, 128, 128, 128, 128, 128, 128, 128, 1}, bytes.Repeat([]byte{128}, 100), append(bytes.Repeat([]byte{128}, 64), 1),
	} {
		checkNum(t, b, 0, 0, 0, false)
		checkNum(t, append([]byte{5}, b...), 1, 0, 0, false)
	}
	for _, at := range []int{-1, -2, 2, 3, math.MinInt64, math.MaxInt64, 1 << 32, -(1 << 32)} {
		checkNum(t, []byte{1, 2}, at, 0, 0, false)
	}
	for _, at := range []int{-1, 0, 1} {
		checkNum(t, nil, at, 0, 0, false)
	}
}

// Whatever GetNum takes is what PutNum writes: no number has two forms.
func TestGetNumTakesOneFormOnly(t *testing.T) {
	taken := 0
	for i := range 1 << 16 {
		b := []byte{byte(i >> 8), byte(i)}
		for at := range 2 {
			n, next, ok := impl.GetNum(b, at)
			if !ok {
				continue
			}
			taken++
			if !bytes.Equal(impl.PutNum(n), b[at:next]) {
				t.Fatalf("GetNum(%v, %d) = %d, which is written %v", b, at, n, impl.PutNum(n))
			}
		}
	}
	// At 0: 128 first bytes end a number, 128 others take 127 second ones. At 1: 128 second bytes.
	if want := 128*256 + 128*127 + 256*128; taken != want {
		t.Errorf("taken %d, want %d", taken, want)
	}
}

func someTexts() []string {
	return []string{
		"", "a", "ab", "\x00", "\x80\xff", "a\nb\x00c", "grün", "日本",
		strings.Repeat("x", 127), strings.Repeat("y", 128), strings.Repeat("z", 300), strings.Repeat("\xff", 20000),
	}
}

func TestPutText(t *testing.T) {
	for s, want := range map[string]string{
		"": "\x00", "ab": "\x02ab", "\xff\x00": "\x02\xff\x00",
		strings.Repeat("y", 128): "\x80\x01" + strings.Repeat("y", 128),
	} {
		if got := string(impl.PutText(s)); got != want {
			t.Errorf("PutText(%q) = %q, want %q", s, got, want)
		}
	}
}

func checkText(t *testing.T, b []byte, at int, s string, next int, ok bool) {
	t.Helper()
	if gotS, gotNext, gotOk := impl.GetText(b, at); gotS != s || gotNext != next || gotOk != ok {
		t.Errorf("GetText(%v, %d) = %q, %d, %v, want %q, %d, %v", b, at, gotS, gotNext, gotOk, s, next, ok)
	}
}

func TestGetTextReadsWhatPutTextWrites(t *testing.T) {
	var all []byte
	for _, s := range someTexts() {
		b := impl.PutText(s)
		checkText(t, b, 0, s, len(b), true)
		at := len(all)
		all = append(all, b...)
		checkText(t, append(slices.Clone(all), 255, 7), at, s, len(all), true)
	}
	at := 0
	for _, s := range someTexts() {
		got, next, ok := impl.GetText(all, at)
		if got != s || !ok {
			t.Fatalf("GetText at %d = %q, %v, want %q", at, got, ok, s)
		}
		at = next
	}
	if at != len(all) {
		t.Errorf("ended at %d of %d", at, len(all))
	}
}

func TestGetTextRefuses(t *testing.T) {
	for _, b := range [][]byte{
		{}, {1}, {2, 'a'}, {128, 1}, append([]byte{128, 1}, bytes.Repeat([]byte{'y'}, 127)...),
		{128}, {128, 0}, {129, 0, 'a'}, {255, 255, 255, 255, 7}, {255, 255, 255, 255, 7, 'a'},
		{255, 255, 255, 255, 15, 'a'}, {128, 128, 128, 128, 128, 1, 'a'},
	} {
		checkText(t, b, 0, "", 0, false)
		checkText(t, append([]byte{0}, b...), 1, "", 0, false)
	}
	for _, at := range []int{-1, 3, 4, math.MinInt64, math.MaxInt64} {
		checkText(t, []byte{1, 'x', 0}, at, "", 0, false)
	}
	checkText(t, nil, 0, "", 0, false)
	// What lies in the spare room behind a list is not part of it.
	checkText(t, []byte{2, 'a', 'b'}[:2], 0, "", 0, false)
	checkNum(t, []byte{128, 1}[:1], 0, 0, 0, false)
}

func TestParts(t *testing.T) {
	for _, c := range []struct {
		s    string
		by   byte
		want []string
	}{
		{"", ',', []string{""}},
		{",", ',', []string{"", ""}},
		{",,", ',', []string{"", "", ""}},
		{"a", ',', []string{"a"}},
		{",a", ',', []string{"", "a"}},
		{"a,", ',', []string{"a", ""}},
		{"a,,b,", ',', []string{"a", "", "b", ""}},
		{"seal 0 1", ' ', []string{"seal", "0", "1"}},
		{"a\nb", '\n', []string{"a", "b"}},
		{"a\x00b\x00", 0, []string{"a", "b", ""}},
		{"\xffa\xff", 255, []string{"", "a", ""}},
		{"ü", 0xbc, []string{"\xc3", ""}},
		{"\xff\xfe", 0xfd, []string{"\xff\xfe"}},
		{"", 0, []string{""}},
	} {
		if got := impl.Parts(c.s, c.by); !slices.Equal(got, c.want) {
			t.Errorf("Parts(%q, %d) = %q, want %q", c.s, c.by, got, c.want)
		}
	}
}

func TestPartsPutTogether(t *testing.T) {
	for _, s := range append(someTexts(), ",a,,b,", "\xff,\xff") {
		for by := range 256 {
			mark := string([]byte{byte(by)})
			got := impl.Parts(s, byte(by))
			if len(got) != strings.Count(s, mark)+1 || strings.Join(got, mark) != s {
				t.Fatalf("Parts(%q, %d) = %q", s, by, got)
			}
		}
	}
}

func TestCrc(t *testing.T) {
	for s, want := range map[string]int{"": 0, "123456789": 3421780262, "a": 3904355907, "\x00": 3523407757} {
		if got := impl.Crc([]byte(s)); got != want {
			t.Errorf("Crc(%q) = %d, want %d", s, got, want)
		}
	}
	for _, s := range someTexts() {
		if got, want := impl.Crc([]byte(s)), int(crc32.ChecksumIEEE([]byte(s))); got != want {
			t.Errorf("Crc(%q) = %d, want %d", s, got, want)
		}
	}
	for c := range 256 {
		b := []byte{'W', byte(c), 'R'}
		if got, want := impl.Crc(b), int(crc32.ChecksumIEEE(b)); got != want {
			t.Errorf("Crc(%v) = %d, want %d", b, got, want)
		}
	}
}

func TestNumWritesIntoNoArgument(t *testing.T) {
	whole := []byte{2, 'a', 'b', 172, 2, 128, 0, 9, 9, 9}
	b := slices.Clone(whole)
	for end := range len(b) + 1 {
		part := b[:end]
		for at := -1; at <= end+1; at++ {
			impl.GetNum(part, at)
			impl.GetText(part, at)
		}
		impl.Crc(part)
		if !bytes.Equal(b, whole) {
			t.Fatalf("changed to %v", b)
		}
	}
}

func TestNumAnswersAreNewMemory(t *testing.T) {
	b := []byte{2, 'a', 'b'}
	s, _, _ := impl.GetText(b, 0)
	b[1] = 'z'
	if s != "ab" {
		t.Errorf("GetText's answer became %q", s)
	}
	for _, put := range []func() []byte{
		func() []byte { return impl.PutNum(0) },
		func() []byte { return impl.PutNum(300) },
		func() []byte { return impl.PutText("") },
		func() []byte { return impl.PutText("ab") },
	} {
		first := put()
		want := slices.Clone(first)
		whole := first[:cap(first)]
		for i := range whole {
			whole[i] = 77
		}
		if got := put(); !bytes.Equal(got, want) {
			t.Errorf("became %v, want %v", got, want)
		}
	}
	parts := impl.Parts("a,b", ',')
	parts[0] = "z"
	if got := impl.Parts("a,b", ','); got[0] != "a" {
		t.Errorf("Parts' answer became %q", got)
	}
}
