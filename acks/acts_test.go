package acks_test

import (
	"slices"
	"testing"

	"meter/acks"
)

// noise is a row of numbers that look like chance and are the same each time.
type noise uint64

func (n *noise) below(end int) int {
	*n += 0x9e3779b97f4a7c15
	z := uint64(*n)
	z = (z ^ z>>30) * 0xbf58476d1ce4e5b9
	z = (z ^ z>>27) * 0x94d049bb133111eb
	return int((z ^ z>>31) % uint64(end))
}

// turn brings numbers into another row.
func (n *noise) turn(l []int) {
	for i := range l {
		k := n.below(i + 1)
		l[i], l[k] = l[k], l[i]
	}
}

// words is acks in the chapter's words: all from 1 to all that came, and a plain list of
// others, in the row in which they came.
type words struct {
	all  int
	more []int
}

func (w *words) has(n int) bool {
	return n >= 1 && n <= w.all || slices.Contains(w.more, n)
}

func (w *words) add(n int) bool {
	if n < 1 || n > 2147483647 || w.has(n) {
		return false
	}
	w.more = append(w.more, n)
	return true
}

func (w *words) merge(low int, set []int) int {
	fresh := 0
	for n := 1; n <= min(low, 1048576); n++ {
		if !w.has(n) {
			fresh++
		}
	}
	w.all = max(w.all, min(low, 1048576))
	for _, n := range set {
		if w.add(n) {
			fresh++
		}
	}
	return fresh
}

func (w *words) low() int {
	n := w.all
	for w.has(n + 1) {
		n++
	}
	return n
}

func (w *words) set() []int {
	var l []int
	for _, n := range w.more {
		if n > w.low() {
			l = append(l, n)
		}
	}
	slices.Sort(l)
	return l
}

func (w *words) missing(upto int) []int {
	var l []int
	for n := 1; n <= min(upto, 1048576); n++ {
		if !w.has(n) {
			l = append(l, n)
		}
	}
	return l
}

// pair is acks and what the words say of them.
type pair struct {
	acks  *acks.Acks
	words words
	// fresh and stale count what had not come and what had, or is no number; leaps how
	// often Low went by what stood behind it.
	fresh, stale, leaps int
}

func newPair() *pair { return &pair{acks: acks.New()} }

func (p *pair) add(t *testing.T, n int) {
	t.Helper()
	low, want := p.words.low(), p.words.add(n)
	checkAdd(t, p.acks, n, want)
	if want {
		p.fresh++
	} else {
		p.stale++
	}
	if p.words.low() > low+1 {
		p.leaps++
	}
}

func (p *pair) merge(t *testing.T, low int, set []int) {
	t.Helper()
	was, want := p.words.low(), p.words.merge(low, set)
	checkMerge(t, p.acks, low, set, want)
	p.fresh += want
	p.stale += len(set)
	if p.words.low() > max(was, low)+1 {
		p.leaps++
	}
}

func (p *pair) check(t *testing.T, upto int) {
	t.Helper()
	checkAcks(t, p.acks, p.words.low(), p.words.set()...)
	for n := -1; n <= upto+2; n++ {
		checkHas(t, p.acks, n, p.words.has(n))
	}
	missing := p.words.missing(upto)
	checkMissing(t, p.acks, upto, missing...)
	checkWhole(t, p.acks, upto, len(missing) == 0)
}

// someNumber is one about at, now and then one that is none, or far off.
func (n *noise) someNumber(at int) int {
	switch n.below(25) {
	case 0:
		return []int{0, -1, -at, bottom, most + 1, 1<<32 + at, top}[n.below(7)]
	case 1:
		return []int{most, most - 1, far, far + 1, far + 2}[n.below(5)]
	}
	return max(1, at-8) + n.below(16)
}

func (n *noise) someSet(at int) []int {
	var l []int
	for range n.below(6) {
		l = append(l, n.someNumber(at))
	}
	return l
}

// P12.1, P12.2, P12.4: any calls, beside what the words say.
func TestAnyActs(t *testing.T) {
	n := noise(2)
	fresh, stale, leaps := 0, 0, 0
	for range 60 {
		p := newPair()
		for i := range 120 {
			at := 1 + i/3
			switch n.below(8) {
			case 0:
				p.merge(t, []int{-1, bottom, 0, at / 2, at, at - 4}[n.below(6)], n.someSet(at))
			case 1:
				p.merge(t, 0, n.someSet(at))
			default:
				p.add(t, n.someNumber(at))
			}
			p.check(t, at+n.below(12))
		}
		fresh, stale, leaps = fresh+p.fresh, stale+p.stale, leaps+p.leaps
	}
	if fresh < 1500 || stale < 1500 || leaps < 300 {
		t.Errorf("%d were fresh, %d not, Low leapt %d times: too few to show anything", fresh, stale, leaps)
	}
}

// P12.1, P12.2, P12.4: all rows of a few calls, beside what the words say.
func TestAllRowsOfFewActs(t *testing.T) {
	acts := []func(*pair){
		func(p *pair) { p.add(t, 1) },
		func(p *pair) { p.add(t, 2) },
		func(p *pair) { p.add(t, 3) },
		func(p *pair) { p.add(t, 5) },
		func(p *pair) { p.add(t, 0) },
		func(p *pair) { p.merge(t, 2, nil) },
		func(p *pair) { p.merge(t, 4, []int{6}) },
		func(p *pair) { p.merge(t, -1, []int{4, 2, 4}) },
	}
	kinds := len(acts)
	for row := range kinds * kinds * kinds * kinds * kinds {
		p := newPair()
		for range 5 {
			acts[row%kinds](p)
			row /= kinds
		}
		p.check(t, 8)
	}
}

// watch holds what acks tell against P12.4 alone.
type watch struct {
	acks *acks.Acks
	low  int
	came []int
}

func newWatch() *watch { return &watch{acks: acks.New()} }

func (w *watch) told(t *testing.T, numbers ...int) {
	t.Helper()
	w.came = append(w.came, numbers...)
	low, set := w.acks.Low(), w.acks.Set()
	if low < w.low {
		t.Fatalf("Low was %d and is %d", w.low, low)
	}
	w.low = low
	for i, n := range set {
		if n <= low+1 || i > 0 && n <= set[i-1] {
			t.Fatalf("the set %d at the Low %d", set, low)
		}
	}
	for _, n := range w.came {
		checkHas(t, w.acks, n, true)
	}
}

// P12.4: many numbers, in any order, doubled or not, by Add or by Merge: Low never falls,
// what came stays, and those that were told the same tell the same.
func TestTheSameNumbersTellTheSame(t *testing.T) {
	n := noise(4)
	for k := range 40 {
		var numbers []int
		for x := 1; x <= 90; x++ {
			if n.below(10) > k%10 || x < k {
				numbers = append(numbers, x)
			}
		}
		numbers = append(numbers, 1000+k, most-k)
		var first *watch
		for way := range 12 {
			w := newWatch()
			n.tell(t, w, numbers, way)
			if first == nil {
				first = w
				continue
			}
			checkAcks(t, w.acks, first.acks.Low(), first.acks.Set()...)
			checkMissing(t, w.acks, 120, first.acks.Missing(120)...)
			for upto := range 100 {
				checkWhole(t, w.acks, upto, first.acks.Whole(upto))
			}
		}
	}
}

// tell tells w the numbers, in one of several ways.
func (n *noise) tell(t *testing.T, w *watch, numbers []int, way int) {
	l := slices.Clone(numbers)
	if way%3 == 1 {
		slices.Reverse(l)
	}
	if way%3 == 2 {
		l = append(l, l[:len(l)/2]...)
		n.turn(l)
	}
	switch way / 3 {
	case 0:
		for _, x := range l {
			w.acks.Add(x)
			w.told(t, x)
		}
	case 1:
		w.acks.Merge(0, l)
		w.told(t, l...)
	case 2:
		for len(l) > 0 {
			k := 1 + n.below(min(7, len(l)))
			w.acks.Merge(-n.below(3), l[:k])
			w.told(t, l[:k]...)
			l = l[k:]
		}
	case 3:
		// What stands at the beginning without a gap may be told as a low too.
		low := 0
		for low < len(numbers) && numbers[low] == low+1 {
			low++
		}
		k := n.below(len(l))
		w.acks.Merge(n.below(low+1), l[:k])
		w.told(t, l[:k]...)
		for _, x := range l[k:] {
			w.acks.Add(x)
			w.told(t, x)
		}
		w.acks.Merge(low, nil)
		w.told(t, upTo(1, low)...)
	}
}

// P12.4: merging another one's Low and Set leaves no number missing that it had, and the
// two merged into one another tell the same.
func TestMergingAnotherOne(t *testing.T) {
	n := noise(5)
	lows, behind := 0, 0
	for k := range 200 {
		a, other := acks.New(), acks.New()
		for range 5 + k {
			a.Add(1 + n.below(10+k))
			other.Add(1 + n.below(10+k))
		}
		low, set := other.Low(), other.Set()
		lows, behind = lows+low, behind+len(set)
		had := 0
		for x := 1; x <= 10+k; x++ {
			if other.Has(x) && !a.Has(x) {
				had++
			}
		}
		came := slices.Concat(upTo(1, a.Low()), a.Set())
		checkMerge(t, a, low, set, had)
		for _, x := range slices.Concat(came, upTo(1, low), set) {
			checkHas(t, a, x, true)
		}
		for _, x := range a.Missing(10 + k) {
			checkHas(t, other, x, false)
		}
		checkAcks(t, other, low, set...)
		checkMerge(t, a, low, set, 0)
		other.Merge(a.Low(), a.Set())
		checkAcks(t, other, a.Low(), a.Set()...)
	}
	if lows < 300 || behind < 1000 {
		t.Errorf("Lows of %d in all, sets of %d: too few to show anything", lows, behind)
	}
}

// P12.4: what is asked changes nothing, and hangs on no row in which a map is gone through.
func TestAskingChangesNothing(t *testing.T) {
	set := []int{5, 7, 8, 11, 13, 14, 20, 21, 22, 40, far, most}
	a := acksOf(t, 3, set...)
	for range 30 {
		for _, upto := range append(noNumbers(), 4, 9, 50) {
			a.Has(upto)
			a.Whole(upto)
			if upto < far {
				a.Missing(upto)
			}
		}
		checkAcks(t, a, 3, set...)
		checkMissing(t, a, 12, 4, 6, 9, 10, 12)
	}
}

// P12.4: many numbers from behind, so that all stand in the set till the last one comes.
func TestManyFromBehind(t *testing.T) {
	const many = 20000
	a := acks.New()
	for n := many; n >= 2; n-- {
		checkAdd(t, a, n, true)
	}
	checkAcks(t, a, 0, upTo(2, many)...)
	checkAdd(t, a, 1, true)
	checkAcks(t, a, many)
	half := acks.New()
	for n := 2; n <= many; n += 2 {
		checkAdd(t, half, n, true)
	}
	checkMerge(t, half, many/2+1, nil, many/4+1)
	checkWhole(t, half, many/2+2, true)
	checkWhole(t, half, many/2+3, false)
	checkMerge(t, half, 0, upTo(1, many), many/4-1)
	checkAcks(t, half, many)
}
