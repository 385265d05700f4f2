package impl

import (
	"strconv"
	"strings"
)

const (
	maxSpelt   = 999999     // the greatest number that Number reads
	maxWritten = 2147483647 // the greatest number that PutNum writes
	maxNumLen  = 5          // how many bytes maxWritten takes
)

const (
	crcEnds = 4294967295
	crcPoly = 3988292384
)

// noNumber is what the readers panic with; the exported functions recover it.
const noNumber = "no number"

func Digits(n int) string { return strconv.Itoa(n) }

func Number(s string) (n int, ok bool) {
	defer func() {
		if recover() != nil {
			n, ok = 0, false
		}
	}()
	return readDigits(s), true
}

func readDigits(s string) int {
	n, err := strconv.Atoi(s)
	if err != nil || n < 0 || n > maxSpelt {
		panic(noNumber)
	}
	// Atoi also reads signs and noughts ahead, which Digits never writes.
	if Digits(n) != s {
		panic(noNumber)
	}
	return n
}

func PutNum(n int) []byte {
	if n < 0 || n > maxWritten {
		return nil
	}
	var b []byte
	for n >= 128 {
		b = append(b, byte(n%128+128))
		n /= 128
	}
	return append(b, byte(n))
}

func GetNum(b []byte, at int) (n int, next int, ok bool) {
	defer func() {
		if recover() != nil {
			n, next, ok = 0, 0, false
		}
	}()
	n, next = readNum(b, at)
	return n, next, true
}

func readNum(b []byte, at int) (int, int) {
	if at < 0 || at > len(b) {
		panic(noNumber)
	}
	n := 0
	for k, c := range b[at:] {
		if k == maxNumLen {
			panic(noNumber)
		}
		n += int(c%128) << (7 * k)
		if c < 128 {
			// A last byte of nought adds nothing, so a shorter form exists.
			if k > 0 && c == 0 || n > maxWritten {
				panic(noNumber)
			}
			return n, at + k + 1
		}
	}
	panic(noNumber)
}

func PutText(s string) []byte { return append(PutNum(len(s)), s...) }

func GetText(b []byte, at int) (string, int, bool) {
	n, from, ok := GetNum(b, at)
	if !ok || n > len(b)-from {
		return "", 0, false
	}
	return string(b[from : from+n]), from + n, true
}

func Parts(s string, by byte) []string {
	var list []string
	from := 0
	// Each part is cloned: an answer shares no memory with an argument.
	for i := range len(s) {
		if s[i] == by {
			list = append(list, strings.Clone(s[from:i]))
			from = i + 1
		}
	}
	return append(list, strings.Clone(s[from:]))
}

func Crc(b []byte) int {
	sum := uint32(crcEnds)
	for _, c := range b {
		sum = crcHalved(sum ^ uint32(c))
	}
	return int(sum ^ crcEnds)
}

func crcHalved(sum uint32) uint32 {
	for range 8 {
		odd := sum%2 == 1
		sum /= 2
		if odd {
			sum ^= crcPoly
		}
	}
	return sum
}
