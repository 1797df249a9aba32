package acks_test

import (
	"math"
	"slices"
	"testing"

	"meter/acks"
)

const (
	top    = math.MaxInt
	bottom = math.MinInt
	// most is the greatest number.
	most = 1<<31 - 1
	// far is how far Merge and Missing go at most.
	far = 1 << 20
)

// upTo is the numbers from one on up to another.
func upTo(from, to int) []int {
	var l []int
	for n := from; n <= to; n++ {
		l = append(l, n)
	}
	return l
}

// noNumbers are none, whatever came.
func noNumbers() []int {
	return []int{0, -1, -2, -far, -most, -most - 1, most + 1, most + 2, 1 << 32, 1<<32 + 1, 1<<32 + 7, 1 << 40, bottom, bottom + 1, top, top - 1}
}

// checkAcks holds what came against what should have: Low and the set.
func checkAcks(t *testing.T, a *acks.Acks, low int, set ...int) {
	t.Helper()
	if got := a.Low(); got != low {
		t.Fatalf("Low is %d, want %d", got, low)
	}
	if got := a.Set(); !slices.Equal(got, set) {
		t.Fatalf("Set is %d, want %d", got, set)
	}
	for _, n := range []int{1, 2, low - 1, low} {
		checkHas(t, a, n, n >= 1 && (n <= low || slices.Contains(set, n)))
	}
	checkHas(t, a, low+1, false)
	for _, n := range set {
		checkHas(t, a, n, true)
		checkHas(t, a, n+1, slices.Contains(set, n+1))
		checkHas(t, a, n-1, slices.Contains(set, n-1))
	}
	for _, n := range noNumbers() {
		checkHas(t, a, n, false)
	}
}

func checkHas(t *testing.T, a *acks.Acks, n int, want bool) {
	t.Helper()
	if got := a.Has(n); got != want {
		t.Fatalf("Has(%d) is %t", n, got)
	}
}

func checkAdd(t *testing.T, a *acks.Acks, n int, want bool) {
	t.Helper()
	if got := a.Add(n); got != want {
		t.Fatalf("Add(%d) is %t", n, got)
	}
}

func checkMerge(t *testing.T, a *acks.Acks, low int, set []int, want int) {
	t.Helper()
	if got := a.Merge(low, set); got != want {
		t.Fatalf("Merge(%d, %d) is %d, want %d", low, set, got, want)
	}
}

func checkMissing(t *testing.T, a *acks.Acks, upto int, want ...int) {
	t.Helper()
	if got := a.Missing(upto); !slices.Equal(got, want) {
		t.Fatalf("Missing(%d) is %d, want %d", upto, got, want)
	}
}

func checkWhole(t *testing.T, a *acks.Acks, upto int, want bool) {
	t.Helper()
	if got := a.Whole(upto); got != want {
		t.Fatalf("Whole(%d) is %t", upto, got)
	}
}

// acksOf is acks of these numbers.
func acksOf(t *testing.T, low int, set ...int) *acks.Acks {
	t.Helper()
	a := acks.New()
	for n := 1; n <= low; n++ {
		checkAdd(t, a, n, true)
	}
	for _, n := range set {
		checkAdd(t, a, n, true)
	}
	checkAcks(t, a, low, set...)
	return a
}

// P12.1, P12.2: the chapter's examples.
func TestExamples(t *testing.T) {
	a := acks.New()
	checkAdd(t, a, 2, true)
	checkAdd(t, a, 2, false)
	checkAdd(t, a, 0, false)
	checkAcks(t, a, 0, 2)
	checkAdd(t, a, 1, true)
	checkAcks(t, a, 2)

	a = acks.New()
	checkMerge(t, a, 3, []int{5, 6, 5}, 3+2)
	checkAcks(t, a, 3, 5, 6)
	checkMissing(t, a, 7, 4, 7)
	checkWhole(t, a, 3, true)
	checkWhole(t, a, 4, false)
}

// P12.1: none came in new acks, and they are not others.
func TestNew(t *testing.T) {
	a, other := acks.New(), acks.New()
	if a == nil || other == nil || a == other {
		t.Fatalf("New is %p and %p", a, other)
	}
	checkAcks(t, a, 0)
	checkHas(t, a, most, false)
	checkMissing(t, a, 3, 1, 2, 3)
	checkWhole(t, a, 0, true)
	checkWhole(t, a, 1, false)
	checkAdd(t, a, 1, true)
	checkAdd(t, a, 5, true)
	checkAcks(t, a, 1, 5)
	checkAcks(t, other, 0)
	checkAcks(t, acks.New(), 0)
}

// P12.1: acks that New did not make are as new ones.
func TestZeroAcks(t *testing.T) {
	var a, idle, merged acks.Acks
	checkAcks(t, &idle, 0)
	checkMissing(t, &idle, 2, 1, 2)
	checkWhole(t, &idle, 1, false)
	checkMerge(t, &idle, 0, nil, 0)
	checkAcks(t, &idle, 0)
	checkAdd(t, &a, 3, true)
	checkAdd(t, &a, 1, true)
	checkAcks(t, &a, 1, 3)
	checkAdd(t, &a, 2, true)
	checkAcks(t, &a, 3)
	checkMerge(t, &merged, 2, []int{3, 5}, 4)
	checkAcks(t, &merged, 3, 5)
}

// P12.1: Add at each edge of what numbers there are.
func TestAddAtTheEdges(t *testing.T) {
	a := acks.New()
	for _, n := range noNumbers() {
		checkAdd(t, a, n, false)
		checkAcks(t, a, 0)
	}
	checkAdd(t, a, most, true)
	checkAcks(t, a, 0, most)
	checkAdd(t, a, most-1, true)
	checkAdd(t, a, most, false)
	checkAcks(t, a, 0, most-1, most)
	checkAdd(t, a, 1, true)
	checkAcks(t, a, 1, most-1, most)
	checkAdd(t, a, far, true)
	checkAdd(t, a, far+1, true)
	for _, n := range noNumbers() {
		checkAdd(t, a, n, false)
	}
	checkAcks(t, a, 1, far, far+1, most-1, most)
	one := acks.New()
	checkAdd(t, one, 1, true)
	checkAcks(t, one, 1)
	checkAdd(t, one, 1, false)
	checkAcks(t, one, 1)
}

// P12.1: what had come, by Add or by Merge, at Low, below it and behind it.
func TestAddOfWhatHadCome(t *testing.T) {
	merged := acks.New()
	checkMerge(t, merged, 4, []int{9, 7, most}, 7)
	for _, a := range []*acks.Acks{acksOf(t, 4, 7, 9, most), merged} {
		for range 3 {
			for _, n := range []int{1, 2, 3, 4, 7, 9, most} {
				checkAdd(t, a, n, false)
				checkAcks(t, a, 4, 7, 9, most)
			}
		}
		checkAdd(t, a, 8, true)
		checkAdd(t, a, 8, false)
		checkAcks(t, a, 4, 7, 8, 9, most)
		checkAdd(t, a, 5, true)
		checkAdd(t, a, 5, false)
		checkAcks(t, a, 5, 7, 8, 9, most)
		checkAdd(t, a, 6, true)
		for n := 1; n <= 9; n++ {
			checkAdd(t, a, n, false)
		}
		checkAcks(t, a, 9, most)
	}
}

// P12.1: a number has come from its Add on, not ahead of it.
func TestHasAheadAndAfter(t *testing.T) {
	a := acks.New()
	for _, n := range []int{3, 1, 7, 2, most, 5, 4, far + 1} {
		checkHas(t, a, n, false)
		checkAdd(t, a, n, true)
		checkHas(t, a, n, true)
		checkAdd(t, a, n, false)
		checkHas(t, a, n, true)
	}
	for n := range 12 {
		checkHas(t, a, n, n >= 1 && n <= 5 || n == 7)
	}
	for _, n := range noNumbers() {
		checkAdd(t, a, n, false)
		checkHas(t, a, n, false)
	}
	checkAcks(t, a, 5, 7, far+1, most)
}

// P12.1: the set rises, whatever the order in which its numbers came.
func TestSetRises(t *testing.T) {
	n := noise(1)
	want := []int{2, 3, 9, 10, 11, 99, 100, 255, 256, 257, 1000, far - 1, far, far + 1, most - 1, most}
	for range 50 {
		came := slices.Clone(want)
		n.turn(came)
		a := acks.New()
		for _, x := range came {
			checkAdd(t, a, x, true)
		}
		checkAcks(t, a, 0, want...)
	}
}

// P12.1: the gap ahead of the set is filled by one number.
func TestGapOfOne(t *testing.T) {
	for low := range 5 {
		for long := range 6 {
			set := upTo(low+2, low+1+long)
			a := acksOf(t, low, set...)
			checkAdd(t, a, low+1, true)
			checkAcks(t, a, low+1+long)

			// What stands behind a second gap stays in the set.
			behind := []int{low + 3 + long, low + 4 + long, low + 9 + long, most}
			a = acksOf(t, low, append(slices.Clone(set), behind...)...)
			checkAdd(t, a, low+1, true)
			checkAcks(t, a, low+1+long, behind...)
			checkAdd(t, a, low+2+long, true)
			checkAcks(t, a, low+4+long, behind[2:]...)
		}
	}
}

// P12.1: the gap ahead of the set is filled by several numbers, by each of their orders.
func TestGapOfSeveral(t *testing.T) {
	for _, order := range [][]int{{3, 4, 5}, {3, 5, 4}, {4, 3, 5}, {4, 5, 3}, {5, 3, 4}, {5, 4, 3}} {
		a := acksOf(t, 2, 6, 7, 9)
		came := []int{6, 7, 9}
		for _, n := range order[:2] {
			checkAdd(t, a, n, true)
			came = append(came, n)
		}
		slices.Sort(came)
		low := 2
		for len(came) > 0 && came[0] == low+1 {
			low, came = low+1, came[1:]
		}
		checkAcks(t, a, low, came...)
		checkAdd(t, a, order[2], true)
		checkAcks(t, a, 7, 9)
	}
}

// P12.2: Merge's low, below Low, at it and above it.
func TestMergeOfLows(t *testing.T) {
	for low := range 12 {
		a := acksOf(t, 5)
		checkMerge(t, a, low, nil, max(low-5, 0))
		checkAcks(t, a, max(low, 5))
		checkMerge(t, a, low, nil, 0)
		checkAcks(t, a, max(low, 5))
	}
	a := acks.New()
	for low := range 200 {
		checkMerge(t, a, low, nil, min(low, 1))
		checkAcks(t, a, low)
	}
}

// P12.2: Merge's low below 0 counts as 0, whatever came.
func TestMergeOfLowsBelowZero(t *testing.T) {
	for _, low := range []int{0, -1, -2, -far, -most, bottom, bottom + 1} {
		a := acks.New()
		checkMerge(t, a, low, nil, 0)
		checkAcks(t, a, 0)
		checkMerge(t, a, low, []int{2, 4}, 2)
		checkAcks(t, a, 0, 2, 4)
		checkMerge(t, a, low, []int{1, 4}, 1)
		checkAcks(t, a, 2, 4)
		checkMerge(t, a, low, []int{4, 2, 1}, 0)
		checkAcks(t, a, 2, 4)
	}
}

// P12.2: Merge's low above 2^20 counts as that.
func TestMergeOfFarLows(t *testing.T) {
	for _, low := range []int{far - 1, far, far + 1, far + 2, most, most + 1, 1 << 40, top - 1, top} {
		is := min(low, far)
		a := acks.New()
		checkMerge(t, a, low, nil, is)
		checkAcks(t, a, is)
		checkMerge(t, a, low, nil, 0)
		checkAcks(t, a, is)

		a = acksOf(t, 3, 5, far-2, far-1, far+3, most)
		checkMerge(t, a, low, nil, is-6)
		checkAcks(t, a, is, far+3, most)

		// What stood just behind it is passed too.
		a = acksOf(t, 0, 2, is+1, is+2, is+4)
		checkMerge(t, a, low, nil, is-1)
		checkAcks(t, a, is+2, is+4)
	}
	a := acks.New()
	checkMerge(t, a, far, []int{far + 1, far + 2}, far+2)
	checkAcks(t, a, far+2)
	checkMerge(t, a, top, nil, 0)
	checkAcks(t, a, far+2)
	checkMerge(t, a, far+3, nil, 0)
	checkAcks(t, a, far+2)
	checkAdd(t, a, far+3, true)
	checkAcks(t, a, far+3)
}

// P12.2: Merge's set, in any order, with what is there twice, is no number, or had come.
func TestMergeOfSets(t *testing.T) {
	for _, c := range []struct {
		low  int
		set  []int
		want int
		is   int
		left []int
	}{
		{0, nil, 0, 3, []int{6, 8}},
		{0, []int{}, 0, 3, []int{6, 8}},
		{0, []int{1, 2, 3}, 0, 3, []int{6, 8}},
		{0, []int{6, 8, 6, 8}, 0, 3, []int{6, 8}},
		{3, []int{6, 8}, 0, 3, []int{6, 8}},
		{0, []int{5}, 1, 3, []int{5, 6, 8}},
		{0, []int{9, 5}, 2, 3, []int{5, 6, 8, 9}},
		{0, []int{11, 10, 9, 7, 5}, 5, 3, []int{5, 6, 7, 8, 9, 10, 11}},
		{0, []int{4}, 1, 4, []int{6, 8}},
		{0, []int{5, 4}, 2, 6, []int{8}},
		{0, []int{4, 5}, 2, 6, []int{8}},
		{0, []int{7, 5, 4}, 3, 8, nil},
		{0, []int{4, 5, 7, 4, 5, 7}, 3, 8, nil},
		{0, []int{10, 10, 10}, 1, 3, []int{6, 8, 10}},
		{0, []int{0, -1, bottom, most + 1, top, 1 << 32, 1<<32 + 5}, 0, 3, []int{6, 8}},
		{-1, []int{0, 10, -1, 2, most, most + 1, most}, 2, 3, []int{6, 8, 10, most}},
		{4, nil, 1, 4, []int{6, 8}},
		{4, []int{5}, 2, 6, []int{8}},
		{4, []int{4, 3, 7}, 2, 4, []int{6, 7, 8}},
		{5, nil, 2, 6, []int{8}},
		{6, nil, 2, 6, []int{8}},
		{7, nil, 3, 8, nil},
		{8, nil, 3, 8, nil},
		{9, nil, 4, 9, nil},
		{9, []int{6, 8, 9, 10}, 5, 10, nil},
		{20, []int{22, 20, 21, 19}, 17, 22, nil},
		{20, []int{23, 22, 25}, 18, 20, []int{22, 23, 25}},
	} {
		a := acksOf(t, 3, 6, 8)
		checkMerge(t, a, c.low, c.set, c.want)
		checkAcks(t, a, c.is, c.left...)
		checkMerge(t, a, c.low, c.set, 0)
		checkAcks(t, a, c.is, c.left...)
	}
}

// P12.2: Merge's low goes by any part of what is in the set.
func TestMergeGoesByTheSet(t *testing.T) {
	set := []int{4, 5, 8, 9, 10, 14, 20, most}
	for low := range 25 {
		a := acksOf(t, 2, set...)
		is := max(low, 2)
		for slices.Contains(set, is+1) {
			is++
		}
		had, left := 0, []int{}
		for _, n := range set {
			if n <= low {
				had++
			}
			if n > is {
				left = append(left, n)
			}
		}
		checkMerge(t, a, low, nil, max(low-2, 0)-had)
		checkAcks(t, a, is, left...)
	}
}

// P12.2: what is missing, and whether anything is, below 1, at Low, behind it, within the
// set and behind that.
func TestMissingAndWhole(t *testing.T) {
	a := acksOf(t, 4, 7, 8, 11)
	for _, upto := range []int{0, -1, -far, -most, bottom, 1, 2, 3, 4} {
		checkMissing(t, a, upto)
		checkWhole(t, a, upto, true)
	}
	missing := map[int][]int{5: {5}, 6: {5, 6}, 7: {5, 6}, 8: {5, 6}, 9: {5, 6, 9}, 10: {5, 6, 9, 10}, 11: {5, 6, 9, 10}, 12: {5, 6, 9, 10, 12}, 14: {5, 6, 9, 10, 12, 13, 14}}
	for upto, want := range missing {
		checkMissing(t, a, upto, want...)
		checkWhole(t, a, upto, false)
	}
	checkAcks(t, a, 4, 7, 8, 11)
	for _, upto := range []int{0, -1, bottom} {
		checkMissing(t, acks.New(), upto)
		checkWhole(t, acks.New(), upto, true)
	}
	checkMissing(t, acks.New(), 1, 1)
	checkMissing(t, acks.New(), 4, 1, 2, 3, 4)
	checkWhole(t, acks.New(), 1, false)
	checkWhole(t, acksOf(t, 0, 2, 3), 1, false)
	checkWhole(t, acksOf(t, 0, 2, 3), 3, false)
	checkWhole(t, acksOf(t, 1), 1, true)
	checkWhole(t, acksOf(t, 1), 2, false)
	checkWhole(t, acksOf(t, 1), top, false)
}

// P12.2: what is missing ends at 2^20; whether anything is does not.
func TestFarMissingAndWhole(t *testing.T) {
	a := acks.New()
	checkMerge(t, a, far-3, []int{far - 1, far + 2}, far-1)
	checkMissing(t, a, far-3)
	checkMissing(t, a, far-2, far-2)
	checkMissing(t, a, far-1, far-2)
	for _, upto := range []int{far, far + 1, far + 2, far + 5, most, most + 1, top} {
		checkMissing(t, a, upto, far-2, far)
		checkWhole(t, a, upto, false)
	}
	checkMerge(t, a, 0, []int{far - 2, far}, 2)
	checkAcks(t, a, far, far+2)
	for _, upto := range []int{far, far + 1, far + 2, far + 3, most, top} {
		checkMissing(t, a, upto)
		checkWhole(t, a, upto, upto == far)
	}
	checkAdd(t, a, far+1, true)
	for _, upto := range []int{far, far + 1, far + 2, far + 3, most, most + 1, 1 << 40, top} {
		checkMissing(t, a, upto)
		checkWhole(t, a, upto, upto <= far+2)
	}
	for _, upto := range []int{far, far + 1, most, top} {
		if l := acks.New().Missing(upto); len(l) != far || l[0] != 1 || l[far-1] != far {
			t.Errorf("Missing(%d) of none is %d numbers", upto, len(l))
		}
	}
}

// P12.3: nil acks take nothing, have nothing, and are whole below 1 alone.
func TestNilAcks(t *testing.T) {
	var a *acks.Acks
	for range 2 {
		for _, n := range append(noNumbers(), 1, 2, far, most) {
			checkAdd(t, a, n, false)
			checkHas(t, a, n, false)
			checkMissing(t, a, n)
			checkWhole(t, a, n, n < 1)
			checkMerge(t, a, n, nil, 0)
			checkMerge(t, a, n, []int{1, 2, 5}, 0)
		}
		if low, set := a.Low(), a.Set(); low != 0 || len(set) != 0 {
			t.Fatalf("nil has the Low %d, the set %d", low, set)
		}
	}
}

// R4 with P12.4: the set that is handed in is not changed, its spare room neither, and
// not kept.
func TestWhatIsHandedInStays(t *testing.T) {
	a := acksOf(t, 2, 9)
	set := []int{7, 5, 5, 0, 4, 77, 78}
	checkMerge(t, a, 0, set[:5], 3)
	if !slices.Equal(set, []int{7, 5, 5, 0, 4, 77, 78}) {
		t.Fatalf("what was handed in is now %d", set)
	}
	spoil(set, 3)
	checkAcks(t, a, 2, 4, 5, 7, 9)
	checkMerge(t, a, 0, set, 1)
	spoil(set, 8)
	checkAcks(t, a, 5, 7, 9)
}

// R4 with P12.4: what Set and Missing tell is the caller's: writing to it, in its spare
// room too, changes neither the acks nor another answer.
func TestAnswersAreTheCallers(t *testing.T) {
	a := acksOf(t, 3, 6, 7, 9, 12)
	set, missing := a.Set(), a.Missing(13)
	againSet, againMissing := a.Set(), a.Missing(13)
	spoil(set, 4)
	spoil(missing, 6)
	if !slices.Equal(againSet, []int{6, 7, 9, 12}) || !slices.Equal(againMissing, []int{4, 5, 8, 10, 11, 13}) {
		t.Error("two answers share what they tell")
	}
	checkAcks(t, a, 3, 6, 7, 9, 12)
	checkMissing(t, a, 13, 4, 5, 8, 10, 11, 13)
	// What one tells may be merged into another one, and written over then.
	other := acks.New()
	checkMerge(t, other, a.Low(), againSet, 7)
	spoil(againSet, 4)
	checkAcks(t, other, 3, 6, 7, 9, 12)
	checkAcks(t, a, 3, 6, 7, 9, 12)
}

// spoil writes over a list, and over its spare room.
func spoil[T any](l []T, by T) {
	l = l[:cap(l)]
	for i := range l {
		l[i] = by
	}
}

// R3: acks know nothing of one another.
func TestAcksAreApart(t *testing.T) {
	a, other := acks.New(), acks.New()
	checkAdd(t, a, 2, true)
	checkAdd(t, other, 1, true)
	checkMerge(t, other, 3, []int{9}, 3)
	checkAcks(t, a, 0, 2)
	checkAcks(t, other, 3, 9)
	checkAdd(t, a, 1, true)
	checkAcks(t, a, 2)
	checkAcks(t, other, 3, 9)
	checkAcks(t, acks.New(), 0)
}
