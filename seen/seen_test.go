package seen_test

import (
	"math"
	"slices"
	"testing"

	"meter/api"
	"meter/seen"
)

const (
	top    = math.MaxInt
	bottom = math.MinInt
	// most is the greatest number that an item, or a low mark, may have.
	most = 1 << 40
	// ahead is how many numbers from its Low on an item's may be among.
	ahead = 16
	// sources is how many there are.
	sources = 4
)

// lows4 is low marks.
type lows4 = [sources]int

// first is the low marks of a new table.
var first = lows4{1, 1, 1, 1}

// checkTable holds what a table has against what it should have.
func checkTable(t *testing.T, s *seen.Seen, lows lows4, all ...seen.Entry) {
	t.Helper()
	if got := s.Lows(); !slices.Equal(got, lows[:]) {
		t.Fatalf("Lows is %d, want %d", got, lows)
	}
	if got := s.All(); !slices.Equal(got, all) {
		t.Fatalf("All is %v, want %v", got, all)
	}
	for _, x := range all {
		// One above the most may stand in a table, but asked for it is Bad.
		if x.Seq <= most {
			checkAsk(t, s, x.Src, x.Seq, x.Seq, seen.Known, x.Code)
		}
	}
}

func checkAsk(t *testing.T, s *seen.Seen, src, seq, low, state, code int) {
	t.Helper()
	if st, c := s.Ask(src, seq, low); st != state || c != code {
		t.Fatalf("Ask(%d, %d, %d) is %d, %d, want %d, %d", src, seq, low, st, c, state, code)
	}
}

func checkNote(t *testing.T, s *seen.Seen, src, seq, low, code int, want api.Errno) {
	t.Helper()
	if e := s.Note(src, seq, low, code); e != want {
		t.Fatalf("Note(%d, %d, %d, %d) is %d, want %d", src, seq, low, code, e, want)
	}
}

// tableOf is a table of what a table may have.
func tableOf(t *testing.T, lows lows4, l ...seen.Entry) *seen.Seen {
	t.Helper()
	s, e := seen.Of(lows[:], l)
	if s == nil || e != api.OK {
		t.Fatalf("Of(%d, %v) is %p, %d", lows, l, s, e)
	}
	return s
}

// checkNone asks for a table that there is none of.
func checkNone(t *testing.T, lows []int, l ...seen.Entry) {
	t.Helper()
	if s, e := seen.Of(lows, l); s != nil || e != api.ErrArg {
		t.Fatalf("Of(%d, %v) is %p, %d, want nil, %d", lows, l, s, e, api.ErrArg)
	}
}

// mixedLows and mixedRow are what a table may have: Seqs of one digit more than others,
// at both edges of what a source may have, and a source without codes.
func mixedLows() lows4 { return lows4{1, 9, 1000, most - 20} }

func mixedRow() []seen.Entry {
	return []seen.Entry{
		{0, 1, 1}, {0, 2, 4}, {0, 9, 2}, {0, 10, 3}, {0, 16, 1},
		{1, 9, 4}, {1, 10, 1}, {1, 24, 2},
		{3, most - 20, 3}, {3, most - 19, 1}, {3, most - 5, 2},
	}
}

// fullLows and fullRow are as many codes as a table may have.
func fullLows() lows4 { return lows4{1, 95, most / 2, most - 15} }

func fullRow() []seen.Entry {
	var l []seen.Entry
	for src, low := range fullLows() {
		for i := range ahead {
			l = append(l, seen.Entry{Src: src, Seq: low + i, Code: 1 + (src+i)%4})
		}
	}
	return l
}

// numbers are an item's.
type numbers struct{ src, seq, low int }

// wrongNumbers may not be, in any table.
func wrongNumbers() []numbers {
	l := []numbers{
		{0, 0, 0}, {0, 1, 0}, {0, 5, 0}, {0, 15, 0}, {0, 16, 0}, {0, 5, -1}, {0, -1, -1}, {0, 0, 1}, {0, -1, 1}, {0, 1, -15},
		{0, 1, 2}, {0, 4, 5}, {0, 5, 6}, {0, 1, 16}, {0, 1, 17}, {0, 1, most}, {0, most - 1, most},
		{0, 17, 1}, {0, 18, 1}, {0, 21, 5}, {0, 1000, 1}, {0, most, most - 16}, {0, most, 1},
		{0, most + 1, most + 1}, {0, most + 1, most}, {0, most + 1, most - 14}, {0, most, most + 1}, {0, most + 16, most + 16},
		{0, top, top}, {0, top, top - 1}, {0, top, top - 15}, {0, top, top - 16}, {0, top - 1, top}, {0, bottom, bottom},
		{0, top, bottom}, {0, bottom, top}, {0, top, 1}, {0, bottom, 1}, {0, 1, bottom}, {0, 1, top}, {0, bottom + 1, bottom},
	}
	for _, src := range []int{-1, -2, 4, 5, 8, 256, bottom, top} {
		l = append(l, numbers{src, 1, 1}, numbers{src, 5, 3}, numbers{src, most, most}, numbers{src, 0, 0})
	}
	return l
}

func wrongCodes() []int { return []int{0, 5, -1, 6, 256, 257, bottom, top} }

// The numbers that the chapter names.
func TestStatesAndErrors(t *testing.T) {
	if got := [...]int{seen.Bad, seen.Old, seen.Known, seen.Fresh}; got != [...]int{0, 1, 2, 3} {
		t.Errorf("the states are %d", got)
	}
	s := tableOf(t, lows4{2, 1, 1, 1}, seen.Entry{Src: 0, Seq: 3, Code: 4})
	checkAsk(t, s, 0, 0, 0, 0, 0)
	checkAsk(t, s, 0, 1, 1, 1, 0)
	checkAsk(t, s, 0, 3, 1, 2, 4)
	checkAsk(t, s, 0, 2, 2, 3, 0)
	checkNote(t, s, 4, 1, 1, 1, 1)
	checkNote(t, s, 0, 1, 1, 1, 12)
	checkNote(t, s, 0, 3, 1, 1, 5)
	checkNote(t, nil, 0, 3, 1, 1, 2)
	checkNote(t, s, 0, 2, 2, 1, 0)
	if _, e := seen.Of(nil, nil); e != 1 {
		t.Errorf("Of of no lows is %d", e)
	}
}

// P11.1 to P11.3: the chapter's examples.
func TestExamples(t *testing.T) {
	s := seen.New()
	checkAsk(t, s, 0, 1, 1, seen.Fresh, 0)
	checkNote(t, s, 0, 1, 1, 2, api.OK)
	checkAsk(t, s, 0, 1, 1, seen.Known, 2)
	checkAsk(t, s, 1, 1, 1, seen.Fresh, 0)
	checkNote(t, s, 0, 3, 2, 1, api.OK)
	checkAsk(t, s, 0, 1, 1, seen.Old, 0)
	checkAsk(t, s, 0, 2, 2, seen.Fresh, 0)
	checkTable(t, s, lows4{2, 1, 1, 1}, seen.Entry{Src: 0, Seq: 3, Code: 1})
	for _, x := range []numbers{{4, 1, 1}, {0, 17, 1}, {0, 1, 2}, {0, 0, 0}} {
		checkAsk(t, s, x.src, x.seq, x.low, seen.Bad, 0)
	}
}

// P11.1: a new table has the low marks 1 and no codes, and is not another one.
func TestNew(t *testing.T) {
	s, other := seen.New(), seen.New()
	if s == nil || other == nil || s == other {
		t.Fatalf("New is %p and %p", s, other)
	}
	checkTable(t, s, first)
	for src := range sources {
		checkAsk(t, s, src, 1, 1, seen.Fresh, 0)
		checkNote(t, s, src, 2, 2, 1, api.OK)
	}
	checkTable(t, s, lows4{2, 2, 2, 2}, seen.Entry{0, 2, 1}, seen.Entry{1, 2, 1}, seen.Entry{2, 2, 1}, seen.Entry{3, 2, 1})
	checkTable(t, other, first)
	checkTable(t, seen.New(), first)
}

// P11.1: a table that New did not make is as a new one.
func TestZeroTable(t *testing.T) {
	var s, idle seen.Seen
	checkTable(t, &idle, first)
	checkAsk(t, &idle, 0, 1, 1, seen.Fresh, 0)
	checkAsk(t, &idle, 0, 0, 0, seen.Bad, 0)
	twin := idle.Twin()
	checkTable(t, twin, first)
	checkNote(t, twin, 3, 5, 2, 3, api.OK)
	checkTable(t, twin, lows4{1, 1, 1, 2}, seen.Entry{3, 5, 3})
	checkTable(t, &idle, first)
	checkNote(t, &s, 0, 17, 1, 1, api.ErrArg)
	checkNote(t, &s, 0, 1, 1, 1, api.OK)
	checkNote(t, &s, 0, 1, 1, 2, api.ErrThere)
	checkNote(t, &s, 0, 2, 2, 4, api.OK)
	checkNote(t, &s, 0, 1, 1, 1, api.ErrOld)
	checkTable(t, &s, lows4{2, 1, 1, 1}, seen.Entry{0, 2, 4})
}

// P11.1: the low marks stand by the sources' numbers.
func TestLows(t *testing.T) {
	s := seen.New()
	want := first
	for i, src := range []int{2, 0, 3, 1, 1, 3} {
		low := 10*i + src + 2
		checkNote(t, s, src, low+i, low, 1, api.OK)
		want[src] = low
		if got := s.Lows(); !slices.Equal(got, want[:]) {
			t.Fatalf("Lows is %d, want %d", got, want)
		}
	}
	checkTable(t, tableOf(t, lows4{4, 3, 2, most}), lows4{4, 3, 2, most})
}

// P11.1: the codes stand by Src and then by Seq, in whatever row they were noted.
func TestAllStandsInItsRow(t *testing.T) {
	n := noise(1)
	for _, c := range []struct {
		lows lows4
		row  []seen.Entry
	}{{mixedLows(), mixedRow()}, {fullLows(), fullRow()}} {
		for k := range 60 {
			came := slices.Clone(c.row)
			switch k {
			case 0:
			case 1:
				slices.Reverse(came)
			default:
				n.turn(came)
			}
			s := tableOf(t, c.lows)
			for _, x := range came {
				checkNote(t, s, x.Src, x.Seq, c.lows[x.Src], x.Code, api.OK)
			}
			checkTable(t, s, c.lows, c.row...)
		}
	}
}

// P11.2: numbers that may be, at each edge, are fresh in a new table.
func TestAskOfNumbersThatMayBe(t *testing.T) {
	for src := range sources {
		s := seen.New()
		for _, low := range []int{1, 2, 3, 16, 17, 1000, 1 << 32, most - 16, most - 15, most - 1, most} {
			for _, seq := range []int{low, low + 1, low + 7, low + 14, low + 15} {
				if seq <= most {
					checkAsk(t, s, src, seq, low, seen.Fresh, 0)
				} else {
					checkAsk(t, s, src, seq, low, seen.Bad, 0)
				}
			}
			checkAsk(t, s, src, low+16, low, seen.Bad, 0)
			checkAsk(t, s, src, low+17, low, seen.Bad, 0)
			checkAsk(t, s, src, low-1, low, seen.Bad, 0)
		}
		checkTable(t, s, first)
	}
}

// P11.2: numbers that may not be are Bad, whether the item would be Old, Known or Fresh.
func TestAskOfWrongNumbers(t *testing.T) {
	for _, s := range []*seen.Seen{seen.New(), tableOf(t, mixedLows(), mixedRow()...), tableOf(t, fullLows(), fullRow()...), tableOf(t, lows4{most, most, most, most})} {
		for _, x := range wrongNumbers() {
			checkAsk(t, s, x.src, x.seq, x.low, seen.Bad, 0)
		}
	}
	// What is Known and what is Old, asked for with a Low that may not be.
	s := tableOf(t, lows4{20, 1, 1, 1}, seen.Entry{0, 25, 3}, seen.Entry{1, 1, 2})
	for _, x := range []numbers{{0, 25, 26}, {0, 25, 9}, {0, 25, 0}, {0, 19, 20}, {0, 19, 3}, {0, 19, 0}, {1, 1, 2}, {1, 1, 0}, {-1, 25, 20}, {4, 25, 20}, {5, 1, 1}} {
		checkAsk(t, s, x.src, x.seq, x.low, seen.Bad, 0)
	}
	checkAsk(t, s, 0, 25, 25, seen.Known, 3)
	checkAsk(t, s, 0, 25, 10, seen.Known, 3)
	checkAsk(t, s, 0, 19, 19, seen.Old, 0)
	checkAsk(t, s, 0, 19, 4, seen.Old, 0)
}

// P11.2: what is below the low mark is Old, and what is at it is not.
func TestAskAtTheLowMark(t *testing.T) {
	for _, low := range []int{1, 2, 16, 17, 18, 1000, most - 1, most} {
		for src := range sources {
			lows := first
			lows[src] = low
			s := tableOf(t, lows)
			known := tableOf(t, lows, seen.Entry{src, low, 2})
			for by := range ahead {
				if low-by < 1 {
					break
				}
				checkAsk(t, s, src, low, low-by, seen.Fresh, 0)
				checkAsk(t, known, src, low, low-by, seen.Known, 2)
				if low-1-by >= 1 {
					checkAsk(t, s, src, low-1, low-1-by, seen.Old, 0)
					checkAsk(t, known, src, low-1, low-1-by, seen.Old, 0)
				}
			}
			if low > 1 {
				checkAsk(t, s, src, 1, 1, seen.Old, 0)
			}
			checkTable(t, s, lows)
			checkTable(t, known, lows, seen.Entry{src, low, 2})
		}
	}
}

// P11.2: each code is told of what is Known, and 0 of what is beside it.
func TestAskOfKnown(t *testing.T) {
	for src := range sources {
		for code := 1; code <= 4; code++ {
			for _, seq := range []int{5, 6, 19, 20} {
				lows := first
				lows[src] = 5
				s := tableOf(t, lows, seen.Entry{src, seq, code})
				for by := range ahead {
					if seq-by >= 1 {
						checkAsk(t, s, src, seq, seq-by, seen.Known, code)
					}
				}
				checkAsk(t, s, src, seq+1, seq, seen.Fresh, 0)
				if seq > 5 {
					checkAsk(t, s, src, seq-1, 5, seen.Fresh, 0)
				}
				checkAsk(t, s, src, 4, 1, seen.Old, 0)
				checkAsk(t, s, (src+1)%sources, seq, seq, seen.Fresh, 0)
				checkAsk(t, s, src, seq, seq+1, seen.Bad, 0)
			}
		}
	}
}

// P11.2, R3: asking changes nothing, whatever Low it is asked with, and what is told hangs
// on no row in which a map is gone through.
func TestAskingChangesNothing(t *testing.T) {
	s := tableOf(t, mixedLows(), mixedRow()...)
	for range 30 {
		for _, x := range wrongNumbers() {
			s.Ask(x.src, x.seq, x.low)
		}
		for src, low := range mixedLows() {
			for by := range 4 {
				s.Ask(src, low+by, low+by)
				s.Ask(src, low-by, low-by)
			}
			s.Ask(src, most, most)
		}
		s.Twin()
		checkTable(t, s, mixedLows(), mixedRow()...)
	}
}

// P11.3: what is fresh has its code, whichever that is; the others are as they were.
func TestNote(t *testing.T) {
	for src := range sources {
		s := seen.New()
		var want []seen.Entry
		for i := range ahead {
			code := 1 + i%4
			checkNote(t, s, src, 1+i, 1, code, api.OK)
			want = append(want, seen.Entry{src, 1 + i, code})
			checkTable(t, s, first, want...)
		}
		checkNote(t, s, src, 17, 1, 1, api.ErrArg)
		checkTable(t, s, first, want...)
	}
}

// P11.3: what may not be, and a code that is none, are refused and change nothing.
func TestNoteRefuses(t *testing.T) {
	for _, c := range []struct {
		lows lows4
		row  []seen.Entry
	}{{first, nil}, {mixedLows(), mixedRow()}, {fullLows(), fullRow()}, {lows4{most, most, most, most}, nil}} {
		s := tableOf(t, c.lows, c.row...)
		for _, x := range wrongNumbers() {
			for _, code := range []int{1, 4, 0, 5} {
				checkNote(t, s, x.src, x.seq, x.low, code, api.ErrArg)
			}
		}
		for src, low := range c.lows {
			for _, code := range wrongCodes() {
				checkNote(t, s, src, low, low, code, api.ErrArg)
				checkNote(t, s, src, most, most, code, api.ErrArg)
			}
		}
		checkTable(t, s, c.lows, c.row...)
	}
}

// P11.3, R2: which error is told where two could be: what may not be, a code that is none
// among it, ahead of what is Old or Known.
func TestNoteTellsTheFirstError(t *testing.T) {
	row := []seen.Entry{{0, 25, 3}, {1, 1, 2}}
	s := tableOf(t, lows4{20, 1, 1, 1}, row...)
	for _, c := range []struct {
		src, seq, low, code int
		want                api.Errno
	}{
		{0, 19, 19, 0, api.ErrArg}, {0, 19, 19, 5, api.ErrArg}, {0, 1, 1, 5, api.ErrArg},
		{0, 25, 20, 0, api.ErrArg}, {0, 25, 25, 5, api.ErrArg}, {1, 1, 1, 5, api.ErrArg},
		{0, 19, 3, 1, api.ErrArg}, {0, 19, 20, 1, api.ErrArg}, {0, 25, 9, 3, api.ErrArg}, {0, 25, 26, 3, api.ErrArg}, {1, 1, 0, 2, api.ErrArg},
		{0, 25, 26, 0, api.ErrArg}, {4, 25, 20, 3, api.ErrArg}, {-1, 25, 20, 0, api.ErrArg},
		{0, 19, 19, 1, api.ErrOld}, {0, 19, 4, 4, api.ErrOld}, {0, 1, 1, 1, api.ErrOld},
		{0, 25, 20, 3, api.ErrThere}, {0, 25, 10, 1, api.ErrThere}, {0, 25, 25, 4, api.ErrThere}, {1, 1, 1, 2, api.ErrThere},
	} {
		checkNote(t, s, c.src, c.seq, c.low, c.code, c.want)
		checkTable(t, s, lows4{20, 1, 1, 1}, row...)
	}
	var none *seen.Seen
	for _, code := range []int{1, 0, 5} {
		checkNote(t, none, 0, 1, 1, code, api.ErrNil)
		checkNote(t, none, 9, 0, 0, code, api.ErrNil)
	}
}

// P11.3: the low mark is low where that is above it, and else stays.
func TestNoteLetsTheLowMarkRise(t *testing.T) {
	for src := range sources {
		s := seen.New()
		want := first
		for _, c := range []struct{ seq, low, mark int }{
			{1, 1, 1}, {3, 2, 2}, {17, 2, 2}, {4, 1, 2}, {18, 3, 3}, {20, 20, 20}, {25, 10, 20}, {24, 19, 20}, {22, 21, 21}, {36, 21, 21},
			{1000, 990, 990}, {990, 975, 990}, {1001, 989, 990}, {1002, 991, 991}, {most, most - 15, most - 15}, {most - 15, most - 30, most - 15}, {most - 1, most - 1, most - 1},
		} {
			checkNote(t, s, src, c.seq, c.low, 1, api.OK)
			want[src] = c.mark
			if got := s.Lows(); !slices.Equal(got, want[:]) {
				t.Fatalf("behind Note of %d, %d Lows is %d, want %d", c.seq, c.low, got, want)
			}
		}
		checkTable(t, s, want, seen.Entry{src, most - 1, 1}, seen.Entry{src, most, 1})
		// What is refused does not let it rise.
		checkNote(t, s, src, most, most, 1, api.ErrThere)
		checkNote(t, s, src, most, most, 5, api.ErrArg)
		checkTable(t, s, want, seen.Entry{src, most - 1, 1}, seen.Entry{src, most, 1})
	}
}

// P11.3: codes below the low mark are forgotten, those at it and above are not, nor any
// of other sources; what is forgotten is Old.
func TestNoteForgets(t *testing.T) {
	for src := range sources {
		for low := 96; low <= 115; low++ {
			seq := max(low, 110)
			lows := lows4{95, 95, 95, 95}
			var row, want []seen.Entry
			for other := range sources {
				for i := range ahead - 1 {
					x := seen.Entry{other, 95 + i, 1 + i%4}
					row = append(row, x)
					if other != src || x.Seq >= low {
						want = append(want, x)
					}
				}
				if other == src {
					want = append(want, seen.Entry{src, seq, 4})
				}
			}
			s := tableOf(t, lows, row...)
			checkNote(t, s, src, seq, low, 4, api.OK)
			lows[src] = low
			checkTable(t, s, lows, want...)
			for old := 80; old < low; old++ {
				checkAsk(t, s, src, old, old, seen.Old, 0)
				checkAsk(t, s, src, old, old-15, seen.Old, 0)
				checkNote(t, s, src, old, old, 1, api.ErrOld)
			}
			checkTable(t, s, lows, want...)
		}
	}
}

// P11.3: a great leap of the low mark forgets all that its source had.
func TestNoteLeaps(t *testing.T) {
	s := tableOf(t, fullLows(), fullRow()...)
	checkNote(t, s, 0, most, most, 2, api.OK)
	lows := fullLows()
	lows[0] = most
	checkTable(t, s, lows, append([]seen.Entry{{0, most, 2}}, fullRow()[ahead:]...)...)
	for _, seq := range []int{1, 2, 16, 17, 1000, most - 1} {
		checkAsk(t, s, 0, seq, seq, seen.Old, 0)
		checkNote(t, s, 0, seq, seq, 1, api.ErrOld)
	}
	checkNote(t, s, 0, most, most, 2, api.ErrThere)
	checkNote(t, s, 0, most+1, most, 2, api.ErrArg)
	checkTable(t, s, lows, append([]seen.Entry{{0, most, 2}}, fullRow()[ahead:]...)...)
}

// P11.4: a table of no codes has its low marks, at each edge.
func TestOfLows(t *testing.T) {
	for src := range sources {
		for _, low := range []int{1, 2, 3, 16, 17, 1 << 32, most - 1, most} {
			lows := lows4{7, 8, 9, 10}
			lows[src] = low
			s := tableOf(t, lows)
			checkTable(t, s, lows)
			checkAsk(t, s, src, low, low, seen.Fresh, 0)
			if low > 1 {
				checkAsk(t, s, src, low-1, low-1, seen.Old, 0)
			}
			checkNote(t, s, src, low, low, 3, api.OK)
			checkTable(t, s, lows, seen.Entry{src, low, 3})
		}
	}
	s, e := seen.Of([]int{1, 1, 1, 1}, []seen.Entry{})
	if e != api.OK {
		t.Fatalf("Of of an empty list is %d", e)
	}
	checkTable(t, s, first)
}

// P11.4: rows of lows that are too short, too long, or have one that may not be.
func TestOfWrongLows(t *testing.T) {
	x := seen.Entry{Src: 0, Seq: 1, Code: 1}
	for _, lows := range [][]int{nil, {}, {1}, {1, 1}, {1, 1, 1}, {1, 1, 1, 1, 1}, {1, 1, 1, 1, 0}, {1, 1, 1, 1, 1, 1, 1, 1}, make([]int, 3), make([]int, 4), make([]int, 100000)} {
		checkNone(t, lows)
		checkNone(t, lows, x)
	}
	for src := range sources {
		for _, low := range []int{0, -1, -15, -16, most + 1, most + 2, 1 << 41, bottom, bottom + 1, top, top - 15} {
			lows := first
			lows[src] = low
			checkNone(t, lows[:])
			checkNone(t, lows[:], x)
			checkNone(t, lows[:], seen.Entry{Src: src, Seq: low, Code: 1})
			checkNone(t, lows[:], seen.Entry{Src: src, Seq: 1, Code: 1})
		}
	}
}

// P11.4: entries at each edge of what a table may have.
func TestOfEntriesAtTheEdges(t *testing.T) {
	for src := range sources {
		for _, low := range []int{1, 2, 17, 1000, most - 15, most - 14, most} {
			lows := first
			lows[src] = low
			for code := 1; code <= 4; code++ {
				for _, seq := range []int{low, low + 1, low + 14, low + 15} {
					checkTable(t, tableOf(t, lows, seen.Entry{src, seq, code}), lows, seen.Entry{src, seq, code})
				}
			}
			for _, code := range wrongCodes() {
				checkNone(t, lows[:], seen.Entry{src, low, code})
			}
			for _, seq := range []int{low - 1, low - 2, 0, -1, -low, low - ahead, low + 16, low + 17, low + 1000, bottom, top} {
				checkNone(t, lows[:], seen.Entry{src, seq, 1})
			}
		}
	}
	for _, src := range []int{-1, -4, 4, 5, 256, bottom, top} {
		checkNone(t, first[:], seen.Entry{src, 1, 1})
		checkNone(t, first[:], seen.Entry{0, 1, 1}, seen.Entry{src, 1, 1})
		checkNone(t, first[:], seen.Entry{src, 1, 1}, seen.Entry{3, 1, 1})
		checkNone(t, first[:], seen.Entry{src, 0, 0})
	}
}

// P11.4: by the chapter's words a table may have a Seq above the most, if that is close
// to its low mark; no item may have it, so asked for it is Bad.
func TestOfEntriesAboveTheMost(t *testing.T) {
	lows := lows4{most, most - 14, 1, most}
	row := []seen.Entry{{0, most, 1}, {0, most + 1, 2}, {0, most + 15, 3}, {1, most + 1, 4}}
	s := tableOf(t, lows, row...)
	checkTable(t, s, lows, row...)
	checkTable(t, s.Twin(), lows, row...)
	for _, x := range row[1:] {
		checkAsk(t, s, x.Src, x.Seq, lows[x.Src], seen.Bad, 0)
		checkNote(t, s, x.Src, x.Seq, lows[x.Src], 1, api.ErrArg)
	}
	checkNone(t, lows[:], seen.Entry{0, most + 16, 1})
	checkNone(t, lows[:], seen.Entry{1, most + 2, 1})
}

// P11.4: an entry that may not be, at any place of the list.
func TestOfWrongEntriesAtAnyPlace(t *testing.T) {
	lows, row := mixedLows(), mixedRow()
	for i, x := range row {
		wrong := []seen.Entry{{}, {x.Src, x.Seq, 0}, {x.Src, x.Seq, 5}, {x.Src, lows[x.Src] - 1, 1}, {x.Src, lows[x.Src] + 16, 1}, {-1, x.Seq, 1}, {4, x.Seq, 1}}
		for _, w := range wrong {
			l := slices.Clone(row)
			l[i] = w
			checkNone(t, lows[:], l...)
		}
	}
	checkTable(t, tableOf(t, lows, row...), lows, row...)
}

// P11.4: entries that don't rise, by Src and then by Seq, or are there twice.
func TestOfEntriesThatDoNotRise(t *testing.T) {
	lows, row := mixedLows(), mixedRow()
	for i := range row {
		checkNone(t, lows[:], slices.Insert(slices.Clone(row), i, row[i])...)
		twice := row[i]
		twice.Code = 1 + twice.Code%4
		checkNone(t, lows[:], slices.Insert(slices.Clone(row), i, twice)...)
		checkNone(t, lows[:], slices.Insert(slices.Clone(row), i+1, twice)...)
		for k := range i {
			l := slices.Clone(row)
			l[i], l[k] = l[k], l[i]
			checkNone(t, lows[:], l...)
		}
		if i < len(row)-1 {
			checkNone(t, lows[:], append(slices.Clone(row), row[i])...)
		}
	}
	same := first[:]
	checkNone(t, same, seen.Entry{0, 2, 1}, seen.Entry{0, 1, 1})
	checkNone(t, same, seen.Entry{1, 1, 1}, seen.Entry{0, 2, 1})
	checkNone(t, same, seen.Entry{1, 2, 1}, seen.Entry{0, 1, 1})
	checkNone(t, same, seen.Entry{3, 1, 1}, seen.Entry{2, 16, 1})
	checkNone(t, same, seen.Entry{0, 1, 1}, seen.Entry{0, 1, 1})
	checkNone(t, same, seen.Entry{0, 1, 1}, seen.Entry{1, 1, 1}, seen.Entry{1, 1, 2})
	checkNone(t, same, seen.Entry{0, 1, 1}, seen.Entry{1, 1, 1}, seen.Entry{0, 2, 1})
	l := []seen.Entry{{0, 2, 1}, {1, 1, 1}, {2, 1, 1}, {2, 3, 1}, {3, 2, 1}}
	checkTable(t, tableOf(t, first, l...), first, l...)
}

// P11.4, P11.1: a table of another one's Lows and All is that table, in all that it tells
// and in all that comes to it.
func TestOfWhatAnotherOneTells(t *testing.T) {
	for _, s := range []*seen.Seen{seen.New(), tableOf(t, mixedLows(), mixedRow()...), tableOf(t, fullLows(), fullRow()...)} {
		lows, all := lows4(s.Lows()), s.All()
		other := tableOf(t, lows, all...)
		checkTable(t, other, lows, all...)
		for src := -1; src <= sources; src++ {
			for _, from := range []int{0, 1, 90, 1000, most/2 - 3, most - 25, most - 3} {
				for seq := from; seq < from+20; seq++ {
					for low := seq - 17; low <= seq+1; low++ {
						state, code := s.Ask(src, seq, low)
						checkAsk(t, other, src, seq, low, state, code)
					}
				}
			}
		}
		for _, low := range []int{3, 97, most/2 + 4, most - 9} {
			for src := range sources {
				checkNote(t, other, src, low+6, low, 2, s.Note(src, low+6, low, 2))
				checkTable(t, other, lows4(s.Lows()), s.All()...)
			}
		}
	}
}

// P11.4: a twin has the same; what is done to one of them is not done to the other.
func TestTwin(t *testing.T) {
	lows := lows4{2, 1, 1, 1}
	row := []seen.Entry{{0, 3, 1}, {0, 5, 2}, {1, 1, 3}}
	s := tableOf(t, lows, row...)
	twin := s.Twin()
	third := twin.Twin()
	if twin == nil || third == nil || twin == s || third == twin || third == s {
		t.Fatal("a twin is nil, or what it was made of")
	}
	checkTable(t, twin, lows, row...)

	checkNote(t, twin, 0, 4, 1, 4, api.OK)
	checkNote(t, s, 0, 6, 5, 1, api.OK)
	checkNote(t, s, 2, 7, 3, 2, api.OK)
	checkNote(t, third, 0, 4, 4, 3, api.OK)
	checkNote(t, third, 1, 16, 16, 3, api.OK)

	checkTable(t, s, lows4{5, 1, 3, 1}, seen.Entry{0, 5, 2}, seen.Entry{0, 6, 1}, seen.Entry{1, 1, 3}, seen.Entry{2, 7, 2})
	checkTable(t, twin, lows, seen.Entry{0, 3, 1}, seen.Entry{0, 4, 4}, seen.Entry{0, 5, 2}, seen.Entry{1, 1, 3})
	checkTable(t, third, lows4{4, 16, 1, 1}, seen.Entry{0, 4, 3}, seen.Entry{0, 5, 2}, seen.Entry{1, 16, 3})
}

// P11.4: twins of a table without codes and of a full one go their own ways too.
func TestTwinOfNoneAndOfMany(t *testing.T) {
	s := seen.New()
	twin := s.Twin()
	checkNote(t, s, 0, 2, 2, 1, api.OK)
	checkTable(t, twin, first)
	checkNote(t, twin, 0, 1, 1, 2, api.OK)
	checkTable(t, s, lows4{2, 1, 1, 1}, seen.Entry{0, 2, 1})
	checkTable(t, twin, first, seen.Entry{0, 1, 2})

	full := tableOf(t, fullLows(), fullRow()...)
	twin = full.Twin()
	for src := range 3 {
		checkNote(t, twin, src, most-1-src, most-1-src, 1, api.OK)
	}
	checkNote(t, twin, 3, most, most, 1, api.ErrThere)
	checkTable(t, full, fullLows(), fullRow()...)
	checkTable(t, twin, lows4{most - 1, most - 2, most - 3, most - 15}, append([]seen.Entry{{0, most - 1, 1}, {1, most - 2, 1}, {2, most - 3, 1}}, fullRow()[3*ahead:]...)...)
}

// P11.4: of a nil table all is Bad, nothing is noted, it has nothing, and its twin is nil.
func TestNilTable(t *testing.T) {
	var s *seen.Seen
	for range 2 {
		for _, x := range append(wrongNumbers(), numbers{0, 1, 1}, numbers{3, 16, 1}, numbers{0, most, most}) {
			checkAsk(t, s, x.src, x.seq, x.low, seen.Bad, 0)
			checkNote(t, s, x.src, x.seq, x.low, 1, api.ErrNil)
		}
		if lows, all, twin := s.Lows(), s.All(), s.Twin(); len(lows) != 0 || len(all) != 0 || twin != nil {
			t.Errorf("nil has %d, %v and the twin %p", lows, all, twin)
		}
	}
}

// R4 with P11.4: what is handed in is not changed, its spare room neither, and not kept.
func TestWhatIsHandedInStays(t *testing.T) {
	mixed := mixedLows()
	lows := append(mixed[:], 77)
	row := append(mixedRow(), seen.Entry{7, 7, 7})
	s, e := seen.Of(lows[:sources], row[:len(row)-1])
	if e != api.OK {
		t.Fatalf("Of is %d", e)
	}
	checkNone(t, lows, row[:len(row)-1]...)
	checkNone(t, lows[:sources], row...)
	checkNote(t, s, 0, 12, 11, 1, api.OK)
	if !slices.Equal(lows, append(mixed[:], 77)) || !slices.Equal(row, append(mixedRow(), seen.Entry{7, 7, 7})) {
		t.Fatalf("what was handed in is now %d and %v", lows, row)
	}
	spoil(lows, -5)
	spoil(row, seen.Entry{9, 9, 9})
	mixed[0] = 11
	checkTable(t, s, mixed, append([]seen.Entry{{0, 12, 1}, {0, 16, 1}}, mixedRow()[5:]...)...)
}

// R4 with P11.4: what Lows and All tell is the caller's: writing to it, in its spare room
// too, changes neither the table nor another answer.
func TestAnswersAreTheCallers(t *testing.T) {
	s := tableOf(t, fullLows(), fullRow()...)
	twin := s.Twin()
	lows, all := s.Lows(), s.All()
	againLows, againAll := s.Lows(), s.All()
	spoil(lows, -5)
	spoil(all, seen.Entry{9, 9, 9})
	full := fullLows()
	if !slices.Equal(againLows, full[:]) || !slices.Equal(againAll, fullRow()) {
		t.Error("two answers share what they tell")
	}
	checkTable(t, s, full, fullRow()...)
	checkTable(t, twin, full, fullRow()...)
	spoil(twin.Lows(), -5)
	spoil(twin.All(), seen.Entry{9, 9, 9})
	checkTable(t, s, full, fullRow()...)
	checkTable(t, twin, full, fullRow()...)
	checkTable(t, seen.New(), first)
}

// spoil writes over a list, and over its spare room.
func spoil[T any](l []T, by T) {
	l = l[:cap(l)]
	for i := range l {
		l[i] = by
	}
}

// R3: tables know nothing of one another.
func TestTablesAreApart(t *testing.T) {
	s, other := seen.New(), seen.New()
	made := tableOf(t, mixedLows(), mixedRow()...)
	checkNote(t, s, 0, 3, 2, 1, api.OK)
	checkNote(t, other, 0, 3, 3, 4, api.OK)
	checkNote(t, other, 1, 1, 1, 2, api.OK)
	checkTable(t, s, lows4{2, 1, 1, 1}, seen.Entry{0, 3, 1})
	checkTable(t, other, lows4{3, 1, 1, 1}, seen.Entry{0, 3, 4}, seen.Entry{1, 1, 2})
	checkTable(t, made, mixedLows(), mixedRow()...)
}
