package tests

import (
	"math"
	"slices"
	"testing"

	"loop.example/g00491/impl"
)

// perSeat is a seat, and the share that it is asked with.
type perSeat struct {
	seat impl.Seat
	per  int
}

// exactSeat holds two seats against each other, list by list.
func exactSeat(a, b impl.Seat) bool {
	return a.Epoch == b.Epoch && a.Granted == b.Granted && slices.Equal(a.Taken, b.Taken) && a.Merged == b.Merged && a.Last == b.Last
}

// changedSeat is a twin with one thing turned.
func changedSeat(s impl.Seat, turn func(*impl.Seat)) impl.Seat {
	s.Taken = slices.Clone(s.Taken)
	turn(&s)
	return s
}

// someSeat has taken four of what was granted in two spans, of which two are added up; with a share of 5 and more it is SeatOk.
func someSeat() impl.Seat {
	return impl.Seat{Epoch: 5, Granted: 7, Taken: spanList(1, 3, 5, 5), Merged: 2, Last: 40}
}

// fullSeat has every number at its limit.
func fullSeat() impl.Seat {
	return impl.Seat{Epoch: 1000, Granted: 60, Taken: spanList(1, 60), Merged: 60, Last: 1000000}
}

// rightSeat is SeatOk as the document's words have it; Taken must be a short list.
func rightSeat(s impl.Seat, per int) bool {
	taken := numbersOf(s.Taken)
	if !slices.Equal(stretches(taken), s.Taken) || len(taken) > 0 && (slices.Min(taken) < 1 || slices.Max(taken) > s.Granted) {
		return false
	}
	if s.Merged < 0 || s.Merged > len(taken) || s.Granted > s.Merged+per {
		return false
	}
	return per >= 1 && per <= 8 && s.Epoch >= 0 && s.Epoch <= 1000 && s.Granted >= 0 && s.Granted <= 60 && s.Last >= 0 && s.Last <= 1000000
}

// smallSeats: all seats of up to five Seqs, by which ones are taken, what is granted, how many are added up and the share: SeatOk or not.
func smallSeats() []perSeat {
	var all []perSeat
	for _, taken := range smallSets(1, 5) {
		for granted := -1; granted <= 9; granted++ {
			for merged := -1; merged <= 6; merged++ {
				for per := 0; per <= 9; per++ {
					all = append(all, perSeat{impl.Seat{Epoch: 3, Granted: granted, Taken: taken, Merged: merged, Last: 9}, per})
				}
			}
		}
	}
	return all
}

// wideSeats: up to every limit, SeatOk all of them.
func wideSeats() []perSeat {
	all := []perSeat{{impl.Seat{}, 1}, {impl.Seat{}, 8}, {someSeat(), 5}, {someSeat(), 8}}
	for per := 1; per <= 8; per++ {
		all = append(all, perSeat{fullSeat(), per},
			perSeat{impl.Seat{Granted: 60, Taken: spanList(1, 60), Merged: 60 - per}, per},
			perSeat{impl.Seat{Epoch: 1000, Granted: 60, Taken: spanList(1, 60-per), Merged: 60 - per, Last: 1}, per},
			perSeat{impl.Seat{Epoch: 999, Granted: 60, Taken: spanList(1, 59-per, 60, 60), Merged: 60 - per, Last: 1000000}, per},
			perSeat{impl.Seat{Epoch: 999, Granted: 59, Taken: spanList(1, 59), Merged: 59, Last: 7}, per},
			perSeat{impl.Seat{Epoch: 1, Granted: per, Last: 2}, per},
			perSeat{impl.Seat{Epoch: 2, Granted: per, Taken: spanList(per, per)}, per},
			perSeat{impl.Seat{Epoch: 2, Granted: 20, Taken: spanList(1, 20), Merged: 20}, per},
			perSeat{impl.Seat{Epoch: 2, Granted: 20, Taken: spanList(1, 12, 14, 20), Merged: 19}, per})
	}
	return all
}

// goodSeats: such as are SeatOk.
func goodSeats() []perSeat {
	all := wideSeats()
	for _, x := range smallSeats() {
		if rightSeat(x.seat, x.per) {
			all = append(all, x)
		}
	}
	return all
}

// badSeats: each is off in one thing.
func badSeats() map[string]perSeat {
	bad := map[string]perSeat{}
	for name, s := range map[string]impl.Seat{"zero": {}, "some": someSeat(), "full": fullSeat()} {
		off := func(what string, n int, turn func(*impl.Seat)) {
			bad[name+": "+what+" "+impl.Digits(n)] = perSeat{changedSeat(s, turn), 8}
		}
		for _, n := range []int{math.MinInt, -8, -1, 0, 9, 10, 60, math.MaxInt} {
			bad[name+": per "+impl.Digits(n)] = perSeat{s, n}
		}
		for _, n := range []int{math.MinInt, -2, -1, 1001, 1002, math.MaxInt} {
			off("Epoch", n, func(s *impl.Seat) { s.Epoch = n })
		}
		for _, n := range []int{math.MinInt, -1, 61, 62, 68, math.MaxInt} {
			off("Granted", n, func(s *impl.Seat) { s.Granted = n })
		}
		for _, n := range []int{math.MinInt, -1, 61, 62, math.MaxInt - 7, math.MaxInt} {
			off("Merged", n, func(s *impl.Seat) { s.Merged = n })
		}
		for _, n := range []int{math.MinInt, -1, 1000001, 1000002, math.MaxInt} {
			off("Last", n, func(s *impl.Seat) { s.Last = n })
		}
		for k, taken := range append(takenWrong(), spanList(s.Granted+1, s.Granted+1), spanList(1, s.Granted+1), spanList(s.Granted+2, 60)) {
			off("Taken: wrong set", k, func(s *impl.Seat) { s.Taken = taken })
			off("Merged 0 and Taken: wrong set", k, func(s *impl.Seat) { s.Merged, s.Taken = 0, taken })
		}
	}
	for per := 1; per <= 8; per++ {
		at := " with per " + impl.Digits(per)
		bad["nothing taken, Granted one above"+at] = perSeat{impl.Seat{Granted: per + 1}, per}
		bad["all taken, none added up, Granted one above"+at] = perSeat{impl.Seat{Granted: per + 1, Taken: spanList(1, per+1)}, per}
		bad["all taken and added up, Granted one above"+at] = perSeat{impl.Seat{Granted: 21 + per, Taken: spanList(1, 20), Merged: 20}, per}
		bad["Granted one above, at MaxSeq"+at] = perSeat{impl.Seat{Granted: 60, Taken: spanList(1, 60), Merged: 59 - per}, per}
		bad["Merged one above Taken"+at] = perSeat{impl.Seat{Granted: 5, Taken: spanList(1, 5), Merged: 6}, per}
		bad["Merged 1 of none"+at] = perSeat{impl.Seat{Granted: 1, Merged: 1}, per}
	}
	return bad
}

// seatsOfAllSorts: good ones and wrong ones.
func seatsOfAllSorts() []perSeat {
	all := append(wideSeats(), smallSeats()...)
	for _, x := range badSeats() {
		all = append(all, x)
	}
	return all
}

// taking is SeatData as the document's words have it, of a seat that is SeatOk.
func taking(s impl.Seat, epoch, seq int) (impl.Seat, int) {
	taken := numbersOf(s.Taken)
	switch {
	case seq < 1 || seq > 60:
		return s, 4
	case epoch != s.Epoch:
		return s, 2
	case slices.Contains(taken, seq):
		return s, 1
	case seq > s.Granted:
		return s, 3
	}
	s.Taken = stretches(append(taken, seq))
	return s, 0
}

// takenBy: the seat takes a Seq that it must take.
func takenBy(t *testing.T, s impl.Seat, per, seq int) impl.Seat {
	t.Helper()
	got, how := impl.SeatData(s, per, s.Epoch, seq)
	want := changedSeat(s, func(s *impl.Seat) { s.Taken = stretches(append(numbersOf(s.Taken), seq)) })
	if how != impl.StNew || !exactSeat(got, want) || !impl.SeatOk(got, per) {
		t.Fatalf("SeatData(%v, %d, %d, %d) = %v, %d, want %v", s, per, s.Epoch, seq, got, how, want)
	}
	return got
}

// untaken: the seat refuses what comes, and stays as it was.
func untaken(t *testing.T, name string, x perSeat, epoch, seq, code int) {
	t.Helper()
	if got, how := impl.SeatData(x.seat, x.per, epoch, seq); how != code || !exactSeat(got, x.seat) {
		t.Errorf("%s: SeatData(%v, %d, %d, %d) = %v, %d, want as it was, %d", name, x.seat, x.per, epoch, seq, got, how, code)
	}
}

// addedTo: n more of the seat are added up, which it must allow.
func addedTo(t *testing.T, s impl.Seat, per, n int) impl.Seat {
	t.Helper()
	got, ok := impl.SeatMerge(s, per, n)
	want := changedSeat(s, func(s *impl.Seat) { s.Merged += n })
	if !ok || !exactSeat(got, want) || !impl.SeatOk(got, per) {
		t.Fatalf("SeatMerge(%v, %d, %d) = %v, %v, want %v", s, per, n, got, ok, want)
	}
	return got
}

// notAdded: the seat refuses n more, and stays as it was.
func notAdded(t *testing.T, name string, x perSeat, n int) {
	t.Helper()
	if got, ok := impl.SeatMerge(x.seat, x.per, n); ok || !exactSeat(got, x.seat) {
		t.Errorf("%s: SeatMerge(%v, %d, %d) = %v, %v, want as it was, false", name, x.seat, x.per, n, got, ok)
	}
}

func TestSeatConstants(t *testing.T) {
	if impl.MaxPer != 8 {
		t.Errorf("MaxPer = %d", impl.MaxPer)
	}
	codes := []int{impl.StNew, impl.StTwice, impl.StEpoch, impl.StCredit, impl.StBad}
	if !slices.Equal(codes, []int{0, 1, 2, 3, 4}) {
		t.Errorf("StNew, StTwice, StEpoch, StCredit, StBad = %v", codes)
	}
}

func TestSeatOk(t *testing.T) {
	for _, x := range wideSeats() {
		if !impl.SeatOk(x.seat, x.per) {
			t.Errorf("SeatOk(%v, %d) = false", x.seat, x.per)
		}
	}
	for _, x := range smallSeats() {
		if got := impl.SeatOk(x.seat, x.per); got != rightSeat(x.seat, x.per) {
			t.Errorf("SeatOk(%v, %d) = %v", x.seat, x.per, got)
		}
	}
	for name, x := range badSeats() {
		if impl.SeatOk(x.seat, x.per) {
			t.Errorf("%s: SeatOk(%v, %d) = true", name, x.seat, x.per)
		}
	}
}

func TestSeatOkAtTheLimits(t *testing.T) {
	for n := -3; n <= 1005; n++ {
		one := func(turn func(*impl.Seat)) impl.Seat { return changedSeat(someSeat(), turn) }
		for name, x := range map[string]struct {
			s    impl.Seat
			per  int
			want bool
		}{
			"per":                          {someSeat(), n, n >= 5 && n <= 8},
			"per of zero":                  {impl.Seat{}, n, n >= 1 && n <= 8},
			"Epoch":                        {one(func(s *impl.Seat) { s.Epoch = n }), 8, n >= 0 && n <= 1000},
			"Last":                         {one(func(s *impl.Seat) { s.Last = n }), 8, n >= 0},
			"Last below the limit":         {one(func(s *impl.Seat) { s.Last = 999000 + n }), 8, n <= 1000},
			"Granted":                      {one(func(s *impl.Seat) { s.Granted = n }), 8, n >= 5 && n <= 10},
			"Granted, per 5":               {one(func(s *impl.Seat) { s.Granted = n }), 5, n >= 5 && n <= 7},
			"Granted of none":              {impl.Seat{Granted: n}, 3, n >= 0 && n <= 3},
			"Granted of 55":                {impl.Seat{Granted: n, Taken: spanList(1, 55), Merged: 55}, 8, n >= 55 && n <= 60},
			"Granted of 60":                {impl.Seat{Granted: n, Taken: spanList(1, 60), Merged: 60}, 8, n == 60},
			"Merged":                       {one(func(s *impl.Seat) { s.Merged = n }), 8, n >= 0 && n <= 4},
			"Merged, per 5":                {one(func(s *impl.Seat) { s.Merged = n }), 5, n >= 2 && n <= 4},
			"Merged of none":               {impl.Seat{Merged: n}, 8, n == 0},
			"Merged of 60":                 {impl.Seat{Granted: 60, Taken: spanList(1, 60), Merged: n}, 8, n >= 52 && n <= 60},
			"Taken":                        {one(func(s *impl.Seat) { s.Merged, s.Taken = 0, spanList(n, n) }), 8, n >= 1 && n <= 7},
			"Taken up to it":               {one(func(s *impl.Seat) { s.Merged, s.Taken = 0, spanList(1, n) }), 8, n >= 1 && n <= 7},
			"Taken from it on":             {one(func(s *impl.Seat) { s.Merged, s.Taken = 0, spanList(n, 7) }), 8, n >= 1 && n <= 7},
			"Taken behind another span":    {one(func(s *impl.Seat) { s.Merged, s.Taken = 0, spanList(1, 2, n, n) }), 8, n >= 4 && n <= 7},
			"Taken of nothing granted":     {impl.Seat{Taken: spanList(n, n)}, 8, false},
			"Taken of MaxSeq, as Granted":  {impl.Seat{Granted: 60, Taken: spanList(1, 55, n, n), Merged: 52}, 8, n >= 57 && n <= 60},
			"Taken up to it of 60 granted": {impl.Seat{Granted: 60, Taken: spanList(1, n), Merged: 52}, 8, n >= 52 && n <= 60},
		} {
			if got := impl.SeatOk(x.s, x.per); got != x.want {
				t.Errorf("%s %d: SeatOk(%v, %d) = %v", name, n, x.s, x.per, got)
			}
		}
	}
}

// TestSeatOkOfMergedAndPer: Granted at Merged and per together, and one above.
func TestSeatOkOfMergedAndPer(t *testing.T) {
	for per := 1; per <= 8; per++ {
		for size := range 61 - per {
			for merged := range size + 1 {
				s := impl.Seat{Granted: max(merged+per, size), Taken: stretches(counting(size + 1)[1:]), Merged: merged}
				if got := impl.SeatOk(s, per); got != (size <= merged+per) {
					t.Errorf("SeatOk(%v, %d) = %v", s, per, got)
				}
				if s.Granted++; impl.SeatOk(s, per) {
					t.Errorf("one above: SeatOk(%v, %d) = true", s, per)
				}
			}
		}
	}
}

// TestZeroSeat: it is one that nothing is granted to.
func TestZeroSeat(t *testing.T) {
	zero := impl.Seat{}
	if impl.Owed(zero) != 0 {
		t.Errorf("Owed of zero = %d", impl.Owed(zero))
	}
	for per := -1; per <= 10; per++ {
		x, good := perSeat{zero, per}, per >= 1 && per <= 8
		wantGrant, wantReclaim, code := zero, zero, impl.StBad
		if good {
			wantGrant, wantReclaim, code = impl.Seat{Granted: per}, impl.Seat{Epoch: 1}, impl.StCredit
		}
		if got := impl.SeatOk(zero, per); got != good {
			t.Errorf("SeatOk of zero, %d = %v", per, got)
		}
		if got := impl.SeatGrant(zero, per); !exactSeat(got, wantGrant) {
			t.Errorf("SeatGrant of zero, %d = %v", per, got)
		}
		if got := impl.SeatReclaim(zero, per); !exactSeat(got, wantReclaim) {
			t.Errorf("SeatReclaim of zero, %d = %v", per, got)
		}
		if got, ok := impl.SeatMerge(zero, per, 0); ok != good || !exactSeat(got, zero) {
			t.Errorf("SeatMerge of zero, %d = %v, %v", per, got, ok)
		}
		notAdded(t, "one of zero", x, 1)
		untaken(t, "of zero", x, 0, 1, code)
		untaken(t, "no Seq of zero", x, 0, 0, impl.StBad)
	}
}

func TestSeatGrant(t *testing.T) {
	for _, x := range []struct {
		s    impl.Seat
		per  int
		want int
	}{
		{impl.Seat{}, 1, 1},
		{impl.Seat{}, 8, 8},
		{impl.Seat{Granted: 3}, 3, 3},
		{impl.Seat{Granted: 2}, 3, 3},
		{impl.Seat{Granted: 3, Taken: spanList(1, 3)}, 3, 3},
		{impl.Seat{Granted: 3, Taken: spanList(1, 3), Merged: 1}, 3, 4},
		{impl.Seat{Granted: 3, Taken: spanList(1, 3), Merged: 3}, 3, 6},
		{impl.Seat{Granted: 3, Taken: spanList(2, 2), Merged: 1}, 8, 9},
		{someSeat(), 5, 7},
		{someSeat(), 8, 10},
		{impl.Seat{Granted: 51, Taken: spanList(1, 51), Merged: 51}, 8, 59},
		{impl.Seat{Granted: 52, Taken: spanList(1, 52), Merged: 52}, 8, 60},
		{impl.Seat{Granted: 53, Taken: spanList(1, 53), Merged: 53}, 8, 60},
		{impl.Seat{Granted: 59, Taken: spanList(1, 59), Merged: 59}, 1, 60},
		{impl.Seat{Granted: 58, Taken: spanList(1, 58), Merged: 58}, 1, 59},
		{fullSeat(), 1, 60},
		{fullSeat(), 8, 60},
	} {
		want := changedSeat(x.s, func(s *impl.Seat) { s.Granted = x.want })
		if got := impl.SeatGrant(x.s, x.per); !exactSeat(got, want) {
			t.Errorf("SeatGrant(%v, %d) = %v, want %v", x.s, x.per, got, want)
		}
	}
	for _, x := range goodSeats() {
		want := changedSeat(x.seat, func(s *impl.Seat) { s.Granted = min(60, x.seat.Merged+x.per) })
		got := impl.SeatGrant(x.seat, x.per)
		if !exactSeat(got, want) || got.Granted < x.seat.Granted || !impl.SeatOk(got, x.per) {
			t.Errorf("SeatGrant(%v, %d) = %v, want %v", x.seat, x.per, got, want)
		}
		if again := impl.SeatGrant(got, x.per); !exactSeat(again, got) {
			t.Errorf("SeatGrant(%v, %d), again = %v", got, x.per, again)
		}
	}
}

// TestSeatsThatAreNotOkStayAsTheyWere: whatever is asked of them.
func TestSeatsThatAreNotOkStayAsTheyWere(t *testing.T) {
	wrong := badSeats()
	for k, x := range smallSeats() {
		if !rightSeat(x.seat, x.per) {
			wrong["small seat "+impl.Digits(k)] = x
		}
	}
	for name, x := range wrong {
		if got := impl.SeatGrant(x.seat, x.per); !exactSeat(got, x.seat) {
			t.Errorf("%s: SeatGrant(%v, %d) = %v", name, x.seat, x.per, got)
		}
		if got := impl.SeatReclaim(x.seat, x.per); !exactSeat(got, x.seat) {
			t.Errorf("%s: SeatReclaim(%v, %d) = %v", name, x.seat, x.per, got)
		}
		for _, n := range []int{math.MinInt, -1, 0, 1, 2, 60, math.MaxInt} {
			notAdded(t, name, x, n)
		}
		for _, epoch := range []int{x.seat.Epoch, 0, 4, -1} {
			for _, seq := range []int{1, 2, 6, 60, 0, 61, x.seat.Granted} {
				untaken(t, name, x, epoch, seq, impl.StBad)
			}
		}
	}
}

func TestSeatData(t *testing.T) {
	s := someSeat()
	for seq, want := range map[int][]impl.Span{4: spanList(1, 5), 6: spanList(1, 3, 5, 6), 7: spanList(1, 3, 5, 5, 7, 7)} {
		if got := takenBy(t, s, 5, seq); !slices.Equal(got.Taken, want) {
			t.Errorf("%v with %d has %v", s, seq, got.Taken)
		}
	}
	for seq, code := range map[int]int{
		1: impl.StTwice, 2: impl.StTwice, 3: impl.StTwice, 5: impl.StTwice, // taken
		8: impl.StCredit, 9: impl.StCredit, 10: impl.StCredit, 59: impl.StCredit, 60: impl.StCredit, // above Granted
		0: impl.StBad, -1: impl.StBad, 61: impl.StBad, 62: impl.StBad, 105: impl.StBad, math.MinInt: impl.StBad, math.MaxInt: impl.StBad,
	} {
		untaken(t, "of its epoch", perSeat{s, 5}, 5, seq, code)
		untaken(t, "of its epoch, with a greater share", perSeat{s, 8}, 5, seq, code)
		untaken(t, "with a share too small", perSeat{s, 4}, 5, seq, impl.StBad)
		untaken(t, "with a share too great", perSeat{s, 9}, 5, seq, impl.StBad)
	}
	for _, epoch := range []int{math.MinInt, -1, 0, 4, 6, 1000, 1001, math.MaxInt} {
		for seq := 1; seq <= 60; seq++ {
			untaken(t, "of another epoch", perSeat{s, 5}, epoch, seq, impl.StEpoch)
		}
	}
}

func TestSeatDataAtGranted(t *testing.T) {
	for granted := range 61 {
		x := perSeat{impl.Seat{Epoch: 2, Granted: granted, Taken: stretches(counting(granted)[min(granted, 1):]), Merged: max(granted-1, 0)}, 8}
		if granted > 0 {
			takenBy(t, x.seat, x.per, granted)
		}
		if granted < 60 {
			untaken(t, "one above Granted", x, 2, granted+1, impl.StCredit)
		}
		untaken(t, "MaxSeq and one above", x, 2, 61, impl.StBad)
	}
}

func TestSeatDataOfAllSeats(t *testing.T) {
	for _, x := range goodSeats() {
		e := x.seat.Epoch
		for _, epoch := range []int{e, e - 1, e + 1, -1, 1001, math.MinInt, math.MaxInt} {
			for seq := -1; seq <= 62; seq++ {
				want, code := taking(x.seat, epoch, seq)
				got, how := impl.SeatData(x.seat, x.per, epoch, seq)
				if how != code || !exactSeat(got, want) || !impl.SeatOk(got, x.per) {
					t.Fatalf("SeatData(%v, %d, %d, %d) = %v, %d, want %v, %d", x.seat, x.per, epoch, seq, got, how, want, code)
				}
			}
		}
	}
}

// TestWhichCodeComesFirst: where several could be told.
func TestWhichCodeComesFirst(t *testing.T) {
	s := someSeat()
	aheadOfCredit := changedSeat(s, func(s *impl.Seat) { s.Taken = spanList(1, 3, 9, 9) })
	for name, x := range map[string]struct {
		seat       impl.Seat
		per        int
		epoch, seq int
		code       int
	}{
		"wrong share, other epoch":                {s, 0, 4, 6, impl.StBad},
		"wrong share, taken":                      {s, 9, 5, 2, impl.StBad},
		"wrong share, above Granted":              {s, 9, 5, 8, impl.StBad},
		"wrong share, all of it":                  {s, 4, 6, 61, impl.StBad},
		"share too small, taken":                  {s, 4, 5, 2, impl.StBad},
		"no SeatOk by Last, other epoch":          {changedSeat(s, func(s *impl.Seat) { s.Last = -1 }), 5, 6, 2, impl.StBad},
		"no SeatOk by Merged, above Granted":      {changedSeat(s, func(s *impl.Seat) { s.Merged = 5 }), 5, 5, 60, impl.StBad},
		"no SeatOk by Epoch, which is told":       {changedSeat(s, func(s *impl.Seat) { s.Epoch = 1001 }), 5, 1001, 6, impl.StBad},
		"no SeatOk by Epoch, another is told":     {changedSeat(s, func(s *impl.Seat) { s.Epoch = -1 }), 5, 5, 6, impl.StBad},
		"no SeatOk, taken above Granted":          {aheadOfCredit, 8, 5, 9, impl.StBad},
		"no SeatOk, taken above Granted, another": {aheadOfCredit, 8, 5, 8, impl.StBad},
		"Seq 0, other epoch":                      {s, 5, 4, 0, impl.StBad},
		"Seq 61, other epoch":                     {s, 5, 6, 61, impl.StBad},
		"Seq -1, other epoch":                     {s, 5, -1, -1, impl.StBad},
		"Seq 61, above Granted":                   {s, 5, 5, 61, impl.StBad},
		"other epoch, taken":                      {s, 5, 4, 2, impl.StEpoch},
		"later epoch, taken":                      {s, 5, 6, 5, impl.StEpoch},
		"other epoch, above Granted":              {s, 5, 4, 8, impl.StEpoch},
		"later epoch, above Granted":              {s, 5, 6, 60, impl.StEpoch},
		"no epoch at all, taken":                  {s, 5, -1, 2, impl.StEpoch},
		"no epoch at all, above Granted":          {s, 5, 1001, 8, impl.StEpoch},
		"other epoch, nothing else":               {s, 5, 4, 6, impl.StEpoch},
		"taken, and Granted":                      {changedSeat(s, func(s *impl.Seat) { s.Granted = 5 }), 5, 5, 5, impl.StTwice},
		"not taken, one above Granted":            {changedSeat(s, func(s *impl.Seat) { s.Granted = 5 }), 5, 5, 6, impl.StCredit},
	} {
		untaken(t, name, perSeat{x.seat, x.per}, x.epoch, x.seq, x.code)
	}
}

func TestSeatMerge(t *testing.T) {
	for _, x := range goodSeats() {
		left := len(numbersOf(x.seat.Taken)) - x.seat.Merged
		for n := range left + 1 {
			addedTo(t, x.seat, x.per, n)
		}
		for _, n := range []int{left + 1, left + 2, 61, 1000, math.MaxInt - 60, math.MaxInt - 1, math.MaxInt} {
			notAdded(t, "more than are left", x, n)
		}
		// Merged would stay at or come back above 0 with some of these.
		for _, n := range []int{-1, -2, -x.seat.Merged, -x.seat.Merged - 1, math.MinInt, math.MinInt + 1} {
			if n < 0 {
				notAdded(t, "below 0", x, n)
			}
		}
	}
}

// TestSeatMergeOneByOne: as many as are taken and no more, in steps of every width.
func TestSeatMergeOneByOne(t *testing.T) {
	for width := 1; width <= 8; width++ {
		s := impl.Seat{Granted: 8, Taken: spanList(1, 4, 6, 8)}
		for done := 0; done < 7; {
			n := min(width, 7-done)
			s = addedTo(t, s, 8, n)
			done += n
			if s.Merged != done {
				t.Fatalf("%d of 7 are added up: %v", done, s)
			}
			notAdded(t, "one more than are left", perSeat{s, 8}, 8-done)
		}
		notAdded(t, "one more than all", perSeat{s, 8}, 1)
		addedTo(t, s, 8, 0)
	}
}

func TestSeatReclaim(t *testing.T) {
	for _, x := range []struct {
		s       impl.Seat
		per     int
		epoch   int
		granted int
	}{
		{impl.Seat{Granted: 8}, 8, 1, 0},
		{impl.Seat{Epoch: 999, Granted: 8}, 8, 1000, 0},
		{impl.Seat{Epoch: 1000, Granted: 8}, 8, 1000, 8},
		{impl.Seat{Granted: 3, Taken: spanList(1, 1)}, 3, 1, 1},
		{impl.Seat{Granted: 3, Taken: spanList(2, 2)}, 3, 1, 2},
		{impl.Seat{Granted: 3, Taken: spanList(3, 3)}, 3, 1, 3},
		{impl.Seat{Granted: 3, Taken: spanList(1, 3)}, 3, 1, 3},
		{impl.Seat{Granted: 3, Taken: spanList(1, 1, 3, 3)}, 3, 1, 3},
		{someSeat(), 5, 6, 5},
		{changedSeat(someSeat(), func(s *impl.Seat) { s.Epoch = 998 }), 5, 999, 5},
		{changedSeat(someSeat(), func(s *impl.Seat) { s.Epoch = 999 }), 5, 1000, 5},
		{changedSeat(someSeat(), func(s *impl.Seat) { s.Epoch = 1000 }), 5, 1000, 7},
		{fullSeat(), 8, 1000, 60},
		{changedSeat(fullSeat(), func(s *impl.Seat) { s.Epoch = 999 }), 8, 1000, 60},
		{impl.Seat{Granted: 60, Taken: spanList(1, 52), Merged: 52}, 8, 1, 52},
	} {
		want := changedSeat(x.s, func(s *impl.Seat) { s.Epoch, s.Granted = x.epoch, x.granted })
		if got := impl.SeatReclaim(x.s, x.per); !exactSeat(got, want) {
			t.Errorf("SeatReclaim(%v, %d) = %v, want %v", x.s, x.per, got, want)
		}
	}
	for _, x := range goodSeats() {
		want := changedSeat(x.seat, func(s *impl.Seat) {
			if s.Epoch < 1000 {
				s.Epoch, s.Granted = s.Epoch+1, slices.Max(append(numbersOf(s.Taken), 0))
			}
		})
		if got := impl.SeatReclaim(x.seat, x.per); !exactSeat(got, want) || !impl.SeatOk(got, x.per) {
			t.Errorf("SeatReclaim(%v, %d) = %v, want %v", x.seat, x.per, got, want)
		}
	}
}

// TestBehindAReclaim: what was taken stays so, what was not may still come in the new epoch, up to the greatest that was taken.
func TestBehindAReclaim(t *testing.T) {
	s := impl.SeatReclaim(someSeat(), 5)
	x := perSeat{s, 5}
	takenBy(t, s, 5, 4)
	for _, seq := range []int{1, 2, 3, 5} {
		untaken(t, "taken ahead of it", x, 6, seq, impl.StTwice)
	}
	for _, seq := range []int{6, 7, 60} {
		untaken(t, "granted ahead of it", x, 6, seq, impl.StCredit)
	}
	for seq := 1; seq <= 60; seq++ {
		untaken(t, "of the epoch ahead of it", x, 5, seq, impl.StEpoch)
	}
	if s = impl.SeatGrant(s, 5); s.Granted != 7 || impl.Owed(s) != 5 {
		t.Errorf("granted again: %v", s)
	}
	takenBy(t, s, 5, 7)
}

func TestOwed(t *testing.T) {
	inRange := func(n int) bool { return n >= 0 && n <= 60 }
	edges := []int{math.MinInt, math.MinInt + 1, -2, -1, 0, 1, 2, 30, 59, 60, 61, 62, math.MaxInt - 1, math.MaxInt}
	for _, granted := range edges {
		for _, merged := range edges {
			want := 0
			if inRange(granted) && inRange(merged) && granted > merged {
				want = granted - merged
			}
			if got := impl.Owed(impl.Seat{Granted: granted, Merged: merged}); got != want {
				t.Errorf("Owed of Granted %d, Merged %d = %d, want %d", granted, merged, got, want)
			}
		}
	}
	for granted := -1; granted <= 61; granted++ {
		for merged := -1; merged <= 61; merged++ {
			want := granted - merged
			if want < 0 || !inRange(granted) || !inRange(merged) {
				want = 0
			}
			// What else a seat has is not asked for.
			s := impl.Seat{Epoch: -5, Granted: granted, Taken: spanList(9, 2), Merged: merged, Last: -7}
			if got := impl.Owed(s); got != want {
				t.Errorf("Owed(%v) = %d, want %d", s, got, want)
			}
		}
	}
	for _, x := range goodSeats() {
		if got := impl.Owed(x.seat); got != x.seat.Granted-x.seat.Merged || got > x.per {
			t.Errorf("Owed(%v) = %d, the share is %d", x.seat, got, x.per)
		}
	}
}

// orderOf is in which order Seqs from lo to hi are taken: ascending, descending, or the odd ones first.
func orderOf(lo, hi, way int) []int {
	var list, behind []int
	for seq := lo; seq <= hi; seq++ {
		if way == 2 && seq%2 == 0 {
			behind = append(behind, seq)
		} else {
			list = append(list, seq)
		}
	}
	if way == 1 {
		slices.Reverse(list)
	}
	return append(list, behind...)
}

// TestUntilMaxSeq: grant, take, add up and grant again, with every share, order and width of steps.
func TestUntilMaxSeq(t *testing.T) {
	for per := 1; per <= 8; per++ {
		for way := range 3 {
			for width := 1; width <= per; width++ {
				fillSeat(t, per, way, width)
			}
		}
	}
}

func fillSeat(t *testing.T, per, way, width int) {
	t.Helper()
	s := impl.Seat{Epoch: 3, Last: 8}
	for done := 0; done < 60; {
		s = impl.SeatGrant(s, per)
		if s.Granted != min(60, done+per) || impl.Owed(s) > per || !impl.SeatOk(s, per) {
			t.Fatalf("share %d, %d added up: granted %v", per, done, s)
		}
		for _, seq := range orderOf(1, s.Granted, way) {
			if seq > done && !slices.Contains(numbersOf(s.Taken), seq) {
				s = takenBy(t, s, per, seq)
			}
			untaken(t, "again", perSeat{s, per}, 3, seq, impl.StTwice)
		}
		if s.Granted < 60 {
			untaken(t, "above Granted", perSeat{s, per}, 3, s.Granted+1, impl.StCredit)
		}
		n := min(width, s.Granted-done)
		s = addedTo(t, s, per, n)
		done += n
	}
	want := impl.Seat{Epoch: 3, Granted: 60, Taken: spanList(1, 60), Merged: 60, Last: 8}
	if got := impl.SeatGrant(s, per); !exactSeat(s, want) || !exactSeat(got, want) || impl.Owed(s) != 0 {
		t.Fatalf("share %d: at the end %v, granted %v", per, s, got)
	}
}

// TestNeverMoreThanItsShare: through a long mix of grants, Seqs, sums and reclaims, against a tally of what was told.
func TestNeverMoreThanItsShare(t *testing.T) {
	codes := map[int]int{}
	for start := range 200 {
		seed := uint32(start*7919 + 1)
		draw := func(n int) int {
			seed = seed*1664525 + 1013904223
			return int(seed>>8) % n
		}
		per := 1 + start%8
		s, taken, merged := impl.Seat{}, map[int]bool{}, 0
		for step := range 400 {
			was := s
			want := s
			switch draw(8) {
			case 0, 1:
				s = impl.SeatGrant(s, per)
				want.Granted = min(60, merged+per)
			case 2, 3, 4, 5:
				epoch, seq := s.Epoch+draw(12)/11-draw(12)/11, max(0, s.Granted-8)+draw(12)
				next, how := impl.SeatData(s, per, epoch, seq)
				code := 0
				want, code = taking(s, epoch, seq)
				if codes[how]++; how != code || how == impl.StNew && (taken[seq] || seq > s.Granted) {
					t.Fatalf("step %d of %d: SeatData(%v, %d, %d, %d) tells %d, want %d", step, start, s, per, epoch, seq, how, code)
				}
				if s = next; how == impl.StNew {
					taken[seq] = true
				}
			case 6:
				n := draw(4) - draw(2)
				next, ok := impl.SeatMerge(s, per, n)
				if ok != (n >= 0 && merged+n <= len(taken)) {
					t.Fatalf("step %d of %d: SeatMerge(%v, %d, %d) tells %v", step, start, s, per, n, ok)
				}
				if s = next; ok {
					merged += n
				}
				want.Merged = merged
			case 7:
				if draw(6) == 0 {
					s = impl.SeatReclaim(s, per)
					want.Epoch, want.Granted = was.Epoch+1, slices.Max(append(numbersOf(was.Taken), 0))
				}
			}
			if !exactSeat(s, want) || !impl.SeatOk(s, per) || s.Granted-merged > per || impl.Owed(s) > per {
				t.Fatalf("step %d of %d: behind %v comes %v, want %v", step, start, was, s, want)
			}
			if len(numbersOf(s.Taken)) != len(taken) || slices.ContainsFunc(numbersOf(s.Taken), func(seq int) bool { return !taken[seq] }) {
				t.Fatalf("step %d of %d: %v has not what was taken: %v", step, start, s, taken)
			}
		}
	}
	for _, code := range []int{impl.StNew, impl.StTwice, impl.StEpoch, impl.StCredit, impl.StBad} {
		if codes[code] == 0 {
			t.Errorf("code %d was never told", code)
		}
	}
}

// roomySeat gives the list of a seat spare room with a mark in it.
func roomySeat(s impl.Seat) impl.Seat {
	s.Taken = spareSpans(s.Taken)
	return s
}

// seatAsGiven: the seat is as it was, and so is the room behind its list.
func seatAsGiven(s, was impl.Seat) bool { return exactSeat(s, was) && asGiven(s.Taken, was.Taken) }

func TestSeatsShareNothing(t *testing.T) {
	for name, turn := range map[string]func(s impl.Seat, per int) impl.Seat{
		"SeatGrant":             impl.SeatGrant,
		"SeatReclaim":           impl.SeatReclaim,
		"SeatMerge of 0":        func(s impl.Seat, per int) impl.Seat { s, _ = impl.SeatMerge(s, per, 0); return s },
		"SeatMerge of 1":        func(s impl.Seat, per int) impl.Seat { s, _ = impl.SeatMerge(s, per, 1); return s },
		"SeatMerge of -1":       func(s impl.Seat, per int) impl.Seat { s, _ = impl.SeatMerge(s, per, -1); return s },
		"SeatData of 1":         func(s impl.Seat, per int) impl.Seat { s, _ = impl.SeatData(s, per, s.Epoch, 1); return s },
		"SeatData of 3":         func(s impl.Seat, per int) impl.Seat { s, _ = impl.SeatData(s, per, s.Epoch, 3); return s },
		"SeatData of Granted":   func(s impl.Seat, per int) impl.Seat { s, _ = impl.SeatData(s, per, s.Epoch, s.Granted); return s },
		"SeatData of 60":        func(s impl.Seat, per int) impl.Seat { s, _ = impl.SeatData(s, per, s.Epoch, 60); return s },
		"SeatData of 61":        func(s impl.Seat, per int) impl.Seat { s, _ = impl.SeatData(s, per, s.Epoch, 61); return s },
		"SeatData, other epoch": func(s impl.Seat, per int) impl.Seat { s, _ = impl.SeatData(s, per, s.Epoch+1, 2); return s },
	} {
		for _, x := range seatsOfAllSorts() {
			given := roomySeat(x.seat)
			got, again := turn(given, x.per), turn(given, x.per)
			was := changedSeat(again, func(*impl.Seat) {})
			if !seatAsGiven(given, x.seat) {
				t.Fatalf("%s of %v, %d wrote into it", name, x.seat, x.per)
			}
			overwrite(got.Taken)
			if !seatAsGiven(given, x.seat) || !exactSeat(again, was) {
				t.Fatalf("%s of %v, %d: the answer shares memory", name, x.seat, x.per)
			}
		}
	}
}

func TestAskingLeavesTheSeat(t *testing.T) {
	for _, x := range seatsOfAllSorts() {
		given := roomySeat(x.seat)
		impl.SeatOk(given, x.per)
		impl.Owed(given)
		if !seatAsGiven(given, x.seat) {
			t.Errorf("asking wrote into %v", x.seat)
		}
	}
}

func TestEmptyListOfASeat(t *testing.T) {
	empty := impl.Seat{Granted: 2, Taken: []impl.Span{}}
	if !impl.SeatOk(empty, 2) || impl.Owed(empty) != 2 {
		t.Error("a seat with an empty list is not as one with none")
	}
	if got := impl.SeatReclaim(empty, 2); !exactSeat(got, impl.Seat{Epoch: 1}) {
		t.Errorf("SeatReclaim(%v, 2) = %v", empty, got)
	}
	if got := takenBy(t, empty, 2, 2); !exactSeat(got, impl.Seat{Granted: 2, Taken: spanList(2, 2)}) {
		t.Errorf("%v has taken 2: %v", empty, got)
	}
}
