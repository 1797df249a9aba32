package shard_test

import (
	"math"
	"slices"
	"strconv"
	"strings"
	"testing"
	"unsafe"

	"meter/agg"
	"meter/api"
	"meter/seen"
	"meter/shard"
)

const (
	top    = math.MaxInt
	bottom = math.MinInt
	// last is the last moment, lastStart the Start of its window: no mark is at its end.
	last      = 1 << 40
	lastStart = 1<<40 - 6
	// most is the greatest number that an item, or a low mark, may have.
	most = 1 << 40
	// ahead is how many numbers from its Low on an item's may be among.
	ahead = 16
	// room is how many windows may be open.
	room    = 32
	longest = "abcdefghijklmnop"
)

type lows4 = [4]int

// first is the low marks of a new state.
var first = lows4{1, 1, 1, 1}

// has is what a state has.
type has struct {
	mark    int64
	open    []api.Out
	lows    lows4
	answers []seen.Entry
}

func (h has) clone() has {
	h.open, h.answers = slices.Clone(h.open), slices.Clone(h.answers)
	return h
}

// said is an item's code.
func said(src, seq, code int) seen.Entry { return seen.Entry{Src: src, Seq: seq, Code: code} }

// out is a window with the aggregate of some values.
func out(key string, start int64, values ...int64) api.Out {
	return api.Out{Key: key, Start: start, Agg: agg.Of(values)}
}

func add(src, seq, low int, key string, at, v int64) api.Item {
	return api.Item{Src: src, Seq: seq, Low: low, Kind: api.Add, Key: key, At: at, N: v}
}

func mark(src, seq, low int, at int64) api.Item {
	return api.Item{Src: src, Seq: seq, Low: low, Kind: api.Mark, At: at}
}

// told is windows in a line.
func told(l []api.Out) string {
	var b strings.Builder
	for _, w := range l {
		b.WriteString(strconv.Quote(w.Key) + " from " + strconv.FormatInt(w.Start, 10) + " (" + strconv.FormatInt(w.Agg.Count, 10) + " of " + strconv.FormatInt(w.Agg.Sum, 10) + ") ")
	}
	return b.String()
}

// checkState holds what a state tells against what it should have.
func checkState(t *testing.T, s *shard.State, want has) {
	t.Helper()
	if got := s.Mark(); got != want.mark {
		t.Fatalf("Mark is %d, want %d", got, want.mark)
	}
	if got := s.Open(); !slices.Equal(got, want.open) {
		t.Fatalf("Open is %s, want %s", told(got), told(want.open))
	}
	if got := s.Lows(); !slices.Equal(got, want.lows[:]) {
		t.Fatalf("Lows is %d, want %d", got, want.lows)
	}
	if got := s.Answers(); !slices.Equal(got, want.answers) {
		t.Fatalf("Answers is %v, want %v", got, want.answers)
	}
}

// checkApply applies an item to a state to which it is fresh.
func checkApply(t *testing.T, s *shard.State, x api.Item, code int, outs ...api.Out) {
	t.Helper()
	if c, o, fresh := s.Apply(x); c != code || !slices.Equal(o, outs) || !fresh {
		t.Fatalf("Apply(%+v) is %d, %s, %t, want %d, %s, true", x, c, told(o), fresh, code, told(outs))
	}
}

// checkIdle applies an item that is not fresh: nothing is told.
func checkIdle(t *testing.T, s *shard.State, x api.Item, code int) {
	t.Helper()
	if c, o, fresh := s.Apply(x); c != code || len(o) != 0 || fresh {
		t.Fatalf("Apply(%+v) is %d, %s, %t, want %d, none, false", x, c, told(o), fresh, code)
	}
}

// checkSame asks of both rows of two states.
func checkSame(t *testing.T, a, b *shard.State, want bool) {
	t.Helper()
	if shard.Same(a, b) != want || shard.Same(b, a) != want {
		t.Fatalf("Same is %t, %t, want %t", shard.Same(a, b), shard.Same(b, a), want)
	}
	if !shard.Same(a, a) || !shard.Same(b, b) {
		t.Fatal("one is not the same as itself")
	}
}

// stateOf is a state of what one may have.
func stateOf(t *testing.T, h has) *shard.State {
	t.Helper()
	s, e := shard.Of(h.mark, h.open, h.lows[:], h.answers)
	if s == nil || e != api.OK {
		t.Fatalf("Of(%d, %s, %d, %v) is %p, %d", h.mark, told(h.open), h.lows, h.answers, s, e)
	}
	return s
}

// checkNone asks for a state that there is none of.
func checkNone(t *testing.T, want api.Errno, mark int64, open []api.Out, lows []int, l []seen.Entry) {
	t.Helper()
	if s, e := shard.Of(mark, open, lows, l); s != nil || e != want {
		t.Fatalf("Of(%d, %s, %d, %v) is %p, %d, want nil, %d", mark, told(open), lows, l, s, e, want)
	}
}

// fullOpen is as many windows as may be open, none over at 44.
func fullOpen() []api.Out {
	var l []api.Out
	for i := range int64(room / 2) {
		l = append(l, out("a", 30+10*i, i), out("b", 30+10*i, -i, 200*i))
	}
	return l
}

// some is what a state may have: each code, sources with and without answers, Seqs of one
// digit more than others.
func some() has {
	return has{
		mark: 44,
		open: []api.Out{out("a", 30, 5), out("aa", 30, 7, 8), out("b", 40, -1, 9, 100), out("a", 190, 3)},
		lows: lows4{5, 1, 100, most - 20},
		answers: []seen.Entry{
			said(0, 5, 1), said(0, 9, 2), said(0, 10, 3), said(0, 20, 4),
			said(2, 101, 4), said(2, 102, 1),
			{Src: 3, Seq: most - 20, Code: 2}, {Src: 3, Seq: most - 5, Code: 3},
		},
	}
}

// wholes are what states may have: nothing, some, all that there is room for.
func wholes() []has {
	full := has{mark: 44, open: fullOpen(), lows: lows4{1, 95, most / 2, most - 15}}
	for src, low := range full.lows {
		for i := range ahead {
			full.answers = append(full.answers, seen.Entry{Src: src, Seq: low + i, Code: 1 + (src+i)%4})
		}
	}
	return []has{
		{lows: first},
		some(),
		full,
		{mark: last, open: []api.Out{out("a", lastStart, 1)}, lows: lows4{most, most, most, most}},
		{mark: 15, lows: first},
		{lows: first, open: []api.Out{out("a", 0, 1)}},
		{lows: lows4{1, 2, 3, 4}},
		{lows: first, answers: []seen.Entry{said(3, 16, 4)}},
	}
}

// numbers are an item's.
type numbers struct{ src, seq, low int }

// wrongNumbers may not be, in any table.
func wrongNumbers() []numbers {
	l := []numbers{
		{0, 0, 0}, {0, 1, 0}, {0, 5, -1}, {0, 0, 1}, {0, -1, 1}, {0, 1, 2}, {0, 5, 6}, {0, 9, 10}, {0, 1, most},
		{0, 17, 1}, {0, 21, 5}, {2, 116, 100}, {0, most, most - 16}, {3, most + 1, most + 1}, {3, most + 1, most - 14},
		{0, top, top}, {0, top, top - 1}, {0, bottom, bottom}, {0, bottom, top}, {0, top, bottom}, {0, bottom, 1}, {0, 1, top},
	}
	for _, src := range []int{-1, 4, 9, 256, bottom, top} {
		l = append(l, numbers{src, 1, 1}, numbers{src, 5, 5}, numbers{src, 101, 100}, numbers{src, 0, 0})
	}
	return l
}

func wrongKeys() []string {
	return []string{"", longest + "g", strings.Repeat("x", 256), strings.Repeat("x", 272)}
}

func wrongMoments() []int64 {
	return []int64{-1, -10, last + 1, last + 10, math.MinInt64, math.MaxInt64}
}

// kindsOfNone are the Kinds that are neither an Add's nor a Mark's.
func kindsOfNone() []uint8 { return []uint8{0, 3, 4, 7, 8, 127, 128, 129, 130, 254, 255} }

// acting are items of those numbers that would do something if they were fresh: an Add for
// an open window, one for another, marks at which windows are over, a Kind that is none.
func acting(n numbers) []api.Item {
	return []api.Item{
		add(n.src, n.seq, n.low, "a", 44, 1), add(n.src, n.seq, n.low, "new", 44, 1), add(n.src, n.seq, n.low, "", 44, 1), add(n.src, n.seq, n.low, "a", 3, 1),
		mark(n.src, n.seq, n.low, 45), mark(n.src, n.seq, n.low, last), mark(n.src, n.seq, n.low, -1), mark(n.src, n.seq, n.low, 0),
		{Src: n.src, Seq: n.seq, Low: n.low, Kind: 7}, {Src: n.src, Seq: n.seq, Low: n.low},
	}
}

// The numbers of the errors that the chapter names.
func TestErrors(t *testing.T) {
	if got := [...]api.Errno{api.ErrArg, api.ErrThere, api.ErrFull, api.ErrOld}; got != [...]api.Errno{1, 5, 6, 12} {
		t.Errorf("the errors are %d", got)
	}
}

// P13.1, P13.2: the chapter's examples.
func TestExamples(t *testing.T) {
	s := shard.New()
	one := add(0, 1, 1, "a", 3, 5)
	checkApply(t, s, one, api.Taken)
	checkIdle(t, s, one, api.Taken)
	checkApply(t, s, mark(0, 2, 1, 15), api.Taken, out("a", 0, 5))
	checkApply(t, s, add(0, 3, 3, "a", 4, 0), api.Late)
	checkIdle(t, s, one, 0)
	checkIdle(t, s, api.Item{Src: 9, Kind: api.Add, Key: "a"}, api.Refused)
	checkApply(t, s, api.Item{Seq: 4, Low: 3, Kind: 7, Key: "a"}, api.Refused)
	checkState(t, s, has{mark: 15, lows: lows4{3, 1, 1, 1}, answers: []seen.Entry{said(0, 3, 2), said(0, 4, 4)}})
}

// P13.1: a new state has the mark 0, no open windows, low marks 1 and no answers, and is
// not another one.
func TestNew(t *testing.T) {
	s, other := shard.New(), shard.New()
	if s == nil || other == nil || s == other {
		t.Fatalf("New is %p and %p", s, other)
	}
	checkState(t, s, has{lows: first})
	checkSame(t, s, other, true)
	checkApply(t, s, add(0, 1, 1, "a", 3, 5), api.Taken)
	checkApply(t, s, mark(1, 3, 2, 7), api.Taken)
	checkState(t, s, has{mark: 7, open: []api.Out{out("a", 0, 5)}, lows: lows4{1, 2, 1, 1}, answers: []seen.Entry{said(0, 1, 1), said(1, 3, 1)}})
	checkState(t, other, has{lows: first})
	checkState(t, shard.New(), has{lows: first})
	checkSame(t, s, other, false)
}

// R1: a state that nobody made refuses all, and has nothing, not even low marks: so it is
// the same as another such one, but not as a new one.
func TestStateThatNobodyMade(t *testing.T) {
	var s, other shard.State
	twin := s.Twin()
	if twin == nil || twin == &s {
		t.Fatalf("the twin is %p", twin)
	}
	for _, one := range []*shard.State{&s, twin} {
		for _, n := range append(wrongNumbers(), numbers{0, 1, 1}, numbers{3, 16, 1}, numbers{2, most, most}) {
			for _, x := range acting(n) {
				checkIdle(t, one, x, api.Refused)
			}
		}
		if one.Mark() != 0 || len(one.Open()) != 0 || len(one.Lows()) != 0 || len(one.Answers()) != 0 {
			t.Errorf("it has %d, %s, %d, %v", one.Mark(), told(one.Open()), one.Lows(), one.Answers())
		}
		checkSame(t, one, &other, true)
		checkSame(t, one, shard.New(), false)
		checkSame(t, one, nil, false)
	}
}

// P13.1: a state of these has these.
func TestOf(t *testing.T) {
	for _, h := range wholes() {
		checkState(t, stateOf(t, h), h)
		turned := h.clone()
		slices.Reverse(turned.open)
		checkState(t, stateOf(t, turned), h)
	}
}

// P13.1: a state made of what another one tells is that state, and goes on as it does.
func TestOfWhatAStateTells(t *testing.T) {
	s := shard.New()
	n := noise(3)
	for i := range 400 {
		again, e := shard.Of(s.Mark(), s.Open(), s.Lows(), s.Answers())
		if e != api.OK {
			t.Fatalf("Of is %d", e)
		}
		checkSame(t, s, again, true)
		x := n.someItem(i/4+1, int64(3*i))
		code, outs, fresh := s.Apply(x)
		if c, o, f := again.Apply(x); c != code || !slices.Equal(o, outs) || f != fresh {
			t.Fatalf("Apply(%+v) is %d, %s, %t, and of what it was made of %d, %s, %t", x, c, told(o), f, code, told(outs), fresh)
		}
		checkSame(t, s, again, true)
	}
}

// wrongLines are marks and open windows of which there is no line, with tell.Of's error.
func wrongLines() []struct {
	mark int64
	open []api.Out
	want api.Errno
} {
	type line = struct {
		mark int64
		open []api.Out
		want api.Errno
	}
	full := fullOpen()
	l := []line{
		{45, []api.Out{out("a", 30, 1)}, api.ErrOld},
		{last, []api.Out{out("a", lastStart, 1), out("a", lastStart-10, 1)}, api.ErrOld},
		{44, []api.Out{out("", 20, 1)}, api.ErrOld},
		{44, []api.Out{out("a", 35, 1)}, api.ErrArg},
		{44, []api.Out{out("a", -10, 1)}, api.ErrArg},
		{44, []api.Out{out("a", 30)}, api.ErrArg},
		{44, []api.Out{{Key: "a", Start: 30, Agg: api.Agg{Count: 1}}}, api.ErrArg},
		{44, append(slices.Clone(full), full[0]), api.ErrThere},
		{44, []api.Out{out("a", 30, 1), out("b", 30, 1), out("a", 30, 2)}, api.ErrThere},
		{44, append(slices.Clone(full), out("c", 30, 1)), api.ErrFull},
		{44, []api.Out{out("a", 30, 1), out("a", 20, 1), out("a", 30, 1)}, api.ErrOld},
		{44, []api.Out{out("a", 30, 1), out("a", 30, 1), out("a", 20, 1)}, api.ErrThere},
	}
	for _, at := range wrongMoments() {
		l = append(l, line{at, nil, api.ErrArg}, line{at, []api.Out{out("a", 0, 1), out("a", 0, 1)}, api.ErrArg})
	}
	for _, key := range wrongKeys() {
		l = append(l, line{44, []api.Out{out("b", 30, 1), out(key, 30, 1)}, api.ErrArg})
	}
	return l
}

// wrongTables are low marks and answers of which there is no table.
func wrongTables() []struct {
	lows []int
	l    []seen.Entry
} {
	type table = struct {
		lows []int
		l    []seen.Entry
	}
	l := []table{
		{nil, nil}, {[]int{1, 1, 1}, nil}, {[]int{1, 1, 1, 1, 1}, nil}, {[]int{}, []seen.Entry{said(0, 1, 1)}},
		{[]int{1, 1, 1, 1}, []seen.Entry{said(0, 1, 1), said(0, 1, 1)}},
		{[]int{1, 1, 1, 1}, []seen.Entry{said(0, 2, 1), said(0, 1, 1)}},
		{[]int{1, 1, 1, 1}, []seen.Entry{said(1, 1, 1), said(0, 2, 1)}},
		{[]int{5, 1, 1, 1}, []seen.Entry{said(0, 4, 1)}},
		{[]int{5, 1, 1, 1}, []seen.Entry{said(0, 21, 1)}},
		{[]int{1, 1, 1, 1}, []seen.Entry{said(3, 17, 1)}},
	}
	for _, low := range []int{0, -1, most + 1, bottom, top} {
		l = append(l, table{[]int{low, 1, 1, 1}, nil}, table{[]int{1, 1, 1, low}, nil})
	}
	for _, src := range []int{-1, 4, bottom, top} {
		l = append(l, table{[]int{1, 1, 1, 1}, []seen.Entry{said(src, 1, 1)}})
	}
	for _, code := range []int{0, 5, -1, 257, bottom, top} {
		l = append(l, table{[]int{1, 1, 1, 1}, []seen.Entry{said(2, 1, code)}})
	}
	return l
}

// P13.1: what tell.Of and seen.Of have no line and no table of; where both would have an
// error the line's is told.
func TestOfWrongs(t *testing.T) {
	h := some()
	for _, line := range wrongLines() {
		checkNone(t, line.want, line.mark, line.open, h.lows[:], h.answers)
		checkNone(t, line.want, line.mark, line.open, first[:], nil)
		for _, table := range wrongTables() {
			checkNone(t, line.want, line.mark, line.open, table.lows, table.l)
		}
	}
	for _, table := range wrongTables() {
		checkNone(t, api.ErrArg, h.mark, h.open, table.lows, table.l)
		checkNone(t, api.ErrArg, 0, nil, table.lows, table.l)
		checkNone(t, api.ErrArg, 44, fullOpen(), table.lows, table.l)
	}
}

// P13.2: an item whose numbers may not be is refused, whatever it would do, and changes
// nothing.
func TestApplyOfBad(t *testing.T) {
	for _, h := range wholes()[:3] {
		s := stateOf(t, h)
		for _, n := range wrongNumbers() {
			for _, x := range acting(n) {
				checkIdle(t, s, x, api.Refused)
			}
		}
		checkState(t, s, h)
	}
	// What is known, and what is old, with a Low that may not be.
	s := stateOf(t, some())
	for _, n := range []numbers{{0, 9, 10}, {0, 9, 0}, {0, 20, 4}, {0, 4, 5}, {0, 4, 0}, {3, most - 5, most - 21}} {
		for _, x := range acting(n) {
			checkIdle(t, s, x, api.Refused)
		}
	}
	checkState(t, s, some())
}

// P13.2: one that is below its source's low mark is told 0, and changes nothing.
func TestApplyOfOld(t *testing.T) {
	s := stateOf(t, some())
	for _, n := range []numbers{{0, 4, 4}, {0, 4, 1}, {0, 1, 1}, {2, 99, 99}, {2, 99, 84}, {2, 1, 1}, {3, most - 21, most - 21}, {3, most - 21, most - 36}, {3, 5, 3}} {
		for _, x := range acting(n) {
			checkIdle(t, s, x, 0)
		}
	}
	checkState(t, s, some())
}

// P13.2: one that was answered is told its code again, whatever it is now, and with
// whatever Low; it changes nothing, the low mark neither.
func TestApplyOfKnown(t *testing.T) {
	for _, h := range wholes()[1:3] {
		s := stateOf(t, h)
		for _, x := range h.answers {
			for by := range ahead {
				if low := x.Seq - by; low >= 1 {
					for _, i := range acting(numbers{x.Src, x.Seq, low}) {
						checkIdle(t, s, i, x.Code)
					}
				}
			}
		}
		checkState(t, s, h)
	}
}

// P13.2: a fresh Add whose window has room: it is Taken, and its value is in its window.
func TestApplyOfAddThatIsTaken(t *testing.T) {
	for _, c := range []struct{ at, start int64 }{{0, 0}, {9, 0}, {10, 10}, {99, 90}, {1 << 39, 1<<39 - 8}, {last, lastStart}, {lastStart - 1, lastStart - 10}} {
		for _, v := range []int64{0, 1, -1, 9, 10, 1000, math.MaxInt64, math.MinInt64} {
			for src := range 4 {
				s := shard.New()
				checkApply(t, s, add(src, 1, 1, "k", c.at, v), api.Taken)
				want := has{open: []api.Out{out("k", c.start, v)}, lows: first, answers: []seen.Entry{said(src, 1, 1)}}
				checkState(t, s, want)
				checkApply(t, s, add(src, 3, 1, "k", c.start, 7), api.Taken)
				checkApply(t, s, add(src, 2, 1, longest, c.at, v), api.Taken)
				want.open = []api.Out{out("k", c.start, v, 7), out(longest, c.start, v)}
				slices.SortFunc(want.open, func(a, b api.Out) int { return strings.Compare(a.Key, b.Key) })
				want.answers = []seen.Entry{said(src, 1, 1), said(src, 2, 1), said(src, 3, 1)}
				checkState(t, s, want)
			}
		}
	}
}

// P13.2: a fresh Add whose window is over at the mark is Late; that is noted, and the
// windows are as they were.
func TestApplyOfAddThatIsLate(t *testing.T) {
	s := shard.New()
	checkApply(t, s, mark(0, 1, 1, 24), api.Taken)
	checkApply(t, s, add(0, 2, 1, "a", 13, 5), api.Taken)
	checkApply(t, s, mark(0, 3, 1, 25), api.Taken, out("a", 10, 5))
	checkApply(t, s, add(0, 4, 1, "a", 13, 5), api.Late)
	checkApply(t, s, add(0, 5, 1, "new", 0, 5), api.Late)
	checkIdle(t, s, add(0, 4, 1, "a", 13, 5), api.Late)
	checkIdle(t, s, add(0, 5, 1, "a", 30, 5), api.Late)
	checkState(t, s, has{mark: 25, lows: first, answers: []seen.Entry{said(0, 1, 1), said(0, 2, 1), said(0, 3, 1), said(0, 4, 2), said(0, 5, 2)}})
}

// P13.2: a fresh Add for a 33rd window has no room: that is noted, and stays its answer
// when there is room again.
func TestApplyOfAddWithoutRoom(t *testing.T) {
	s := stateOf(t, has{mark: 44, open: fullOpen(), lows: first})
	checkApply(t, s, add(0, 1, 1, "c", 33, 5), api.NoRoom)
	checkApply(t, s, add(0, 2, 1, "a", last, 5), api.NoRoom)
	checkApply(t, s, add(0, 3, 1, "a", 33, 5), api.Taken)
	want := has{mark: 44, open: fullOpen(), lows: first, answers: []seen.Entry{said(0, 1, 3), said(0, 2, 3), said(0, 3, 1)}}
	want.open[0] = out("a", 30, 0, 5)
	checkState(t, s, want)
	checkApply(t, s, mark(1, 1, 1, 45), api.Taken, want.open[:2]...)
	checkIdle(t, s, add(0, 2, 1, "a", last, 5), api.NoRoom)
	checkApply(t, s, add(0, 4, 1, "a", last, 5), api.Taken)
	want.mark, want.open = 45, append(want.open[2:], out("a", lastStart, 5))
	want.answers = append(want.answers, said(0, 4, 1), said(1, 1, 1))
	checkState(t, s, want)
}

// P13.2: a fresh Add without a key or a moment is Refused, and that is noted; ahead of
// Late and NoRoom.
func TestApplyOfAddThatIsRefused(t *testing.T) {
	for _, h := range []has{{lows: first}, {mark: 44, open: fullOpen(), lows: first}, {mark: last, lows: first}} {
		for _, key := range wrongKeys() {
			s := stateOf(t, h)
			want := h.clone()
			for i, at := range []int64{0, 29, 30, 500, last, -1} {
				checkApply(t, s, add(1, i+1, 1, key, at, 5), api.Refused)
				want.answers = append(want.answers, said(1, i+1, 4))
				checkIdle(t, s, add(1, i+1, 1, "a", last, 5), api.Refused)
			}
			checkState(t, s, want)
		}
		s := stateOf(t, h)
		want := h.clone()
		for i, at := range wrongMoments() {
			checkApply(t, s, add(2, i+1, 1, "a", at, 5), api.Refused)
			want.answers = append(want.answers, said(2, i+1, 4))
		}
		checkState(t, s, want)
	}
}

// P13.2: a fresh Mark is Taken, and tells the windows that are over then, in their row.
func TestApplyOfMark(t *testing.T) {
	for _, c := range []struct {
		at   int64
		told int
	}{{45, 2}, {54, 2}, {55, 3}, {204, 3}, {205, 4}, {last, 4}} {
		for src := range 4 {
			h := some()
			h.lows, h.answers = first, nil
			s := stateOf(t, h)
			checkApply(t, s, mark(src, 2, 2, c.at), api.Taken, h.open[:c.told]...)
			want := has{mark: c.at, open: h.open[c.told:], lows: first, answers: []seen.Entry{said(src, 2, 1)}}
			want.lows[src] = 2
			checkState(t, s, want)
			checkIdle(t, s, mark(src, 2, 2, c.at), api.Taken)
			checkIdle(t, s, mark(src, 2, 2, last), api.Taken)
			checkState(t, s, want)
			checkApply(t, s, mark(src, 3, 2, last), api.Taken, h.open[c.told:]...)
		}
	}
}

// P13.2: a fresh Mark at which none is over, one that is not above the mark, and one that
// is refused tell no windows, and are noted.
func TestApplyOfMarkThatTellsNone(t *testing.T) {
	h := some()
	h.lows, h.answers = first, nil
	s := stateOf(t, h)
	for i, at := range []int64{44, 43, 30, 0} {
		checkApply(t, s, mark(0, i+1, 1, at), api.Taken)
		h.answers = append(h.answers, said(0, i+1, 1))
		checkState(t, s, h)
	}
	for i, at := range wrongMoments() {
		checkApply(t, s, mark(1, i+1, 1, at), api.Refused)
		h.answers = append(h.answers, said(1, i+1, 4))
		checkState(t, s, h)
		checkIdle(t, s, mark(1, i+1, 1, last), api.Refused)
	}
	h.mark, h.open, h.answers = 30, h.open[2:3], nil
	s = stateOf(t, h)
	checkApply(t, s, mark(3, 1, 1, 54), api.Taken)
	h.mark, h.answers = 54, []seen.Entry{said(3, 1, 1)}
	checkState(t, s, h)
	checkApply(t, s, mark(3, 2, 1, 55), api.Taken, h.open...)
}

// P13.2: a fresh item of another Kind is Refused, and that is noted: nothing else is done,
// whatever its other fields are.
func TestApplyOfOtherKinds(t *testing.T) {
	for _, kind := range kindsOfNone() {
		h := some()
		h.lows, h.answers = first, nil
		s := stateOf(t, h)
		for i, x := range []api.Item{{}, {Key: "a", At: 44, N: 1}, {Key: "a", At: last}, {At: -1, N: -1, Part: -1}} {
			x.Src, x.Seq, x.Low, x.Kind = 2, i+3, 3, kind
			checkApply(t, s, x, api.Refused)
			checkIdle(t, s, x, api.Refused)
			x.Kind = api.Mark
			checkIdle(t, s, x, api.Refused)
			h.lows[2] = 3
			h.answers = append(h.answers, said(2, i+3, 4))
			checkState(t, s, h)
		}
	}
}

// P13.2: what was fresh is known then, with its code; the low mark rises to its Low, what
// is below is forgotten, and told 0.
func TestApplyIsNoted(t *testing.T) {
	s := shard.New()
	checkApply(t, s, add(0, 1, 1, "a", 3, 1), api.Taken)
	checkApply(t, s, mark(0, 3, 2, 15), api.Taken, out("a", 0, 1))
	checkState(t, s, has{mark: 15, lows: lows4{2, 1, 1, 1}, answers: []seen.Entry{said(0, 3, 1)}})
	checkIdle(t, s, add(0, 1, 1, "a", 3, 1), 0)
	checkApply(t, s, add(0, 2, 1, "a", 3, 1), api.Late)
	checkApply(t, s, add(0, 17, 2, "a", 13, 1), api.Taken)
	checkIdle(t, s, add(0, 18, 2, "a", 13, 1), api.Refused)
	// What is not fresh does not let the low mark rise, whatever Low it comes with.
	checkIdle(t, s, add(0, 17, 17, "a", 13, 1), api.Taken)
	checkIdle(t, s, add(0, 3, 3, "a", 13, 1), api.Taken)
	checkState(t, s, has{mark: 15, open: []api.Out{out("a", 10, 1)}, lows: lows4{2, 1, 1, 1}, answers: []seen.Entry{said(0, 2, 2), said(0, 3, 1), said(0, 17, 1)}})
	checkApply(t, s, add(0, 18, 3, "", 13, 1), api.Refused)
	checkApply(t, s, api.Item{Src: 1, Seq: 20, Low: 20}, api.Refused)
	checkState(t, s, has{mark: 15, open: []api.Out{out("a", 10, 1)}, lows: lows4{3, 20, 1, 1}, answers: []seen.Entry{said(0, 3, 1), said(0, 17, 1), said(0, 18, 4), said(1, 20, 4)}})
}

// P13.2: items of the greatest numbers, and one that an Of was told of above them: that is
// no item that may be.
func TestApplyAtTheMost(t *testing.T) {
	s := stateOf(t, has{lows: lows4{most, most - 15, 1, 1}, answers: []seen.Entry{said(0, most+1, 3)}})
	checkApply(t, s, add(0, most, most, "a", 3, 1), api.Taken)
	checkApply(t, s, add(1, most, most-15, "a", 3, 2), api.Taken)
	checkApply(t, s, add(2, most, most, "a", 3, 3), api.Taken)
	checkIdle(t, s, add(0, most+1, most+1, "a", 3, 4), api.Refused)
	checkIdle(t, s, add(0, most+1, most, "a", 3, 4), api.Refused)
	checkState(t, s, has{
		open: []api.Out{out("a", 0, 1, 2, 3)}, lows: lows4{most, most - 15, most, 1},
		answers: []seen.Entry{said(0, most, 1), said(0, most+1, 3), said(1, most, 1), said(2, most, 1)},
	})
}

// P13.2: fields that are not named for a Kind are not looked at.
func TestApplyLooksAtNoOtherFields(t *testing.T) {
	parts := []int{0, 7, 8, -1, top, bottom}
	for _, part := range parts {
		s := shard.New()
		x := add(0, 1, 1, "a", 3, 5)
		x.Part = part
		checkApply(t, s, x, api.Taken)
		for i, key := range append(wrongKeys(), "a", "b") {
			for k, v := range []int64{0, -1, math.MaxInt64, math.MinInt64} {
				m := s.Twin()
				x = mark(1, i+k+1, i+k+1, 15)
				x.Part, x.Key, x.N = part, key, v
				checkApply(t, m, x, api.Taken, out("a", 0, 5))
				want := has{mark: 15, lows: lows4{1, i + k + 1, 1, 1}, answers: []seen.Entry{said(0, 1, 1), said(1, i+k+1, 1)}}
				checkState(t, m, want)
			}
		}
		checkState(t, s, has{open: []api.Out{out("a", 0, 5)}, lows: first, answers: []seen.Entry{said(0, 1, 1)}})
	}
}

// P13.3: a twin has the same; what is done to one of them is not done to the other.
func TestTwin(t *testing.T) {
	for _, h := range wholes() {
		s := stateOf(t, h)
		twin := s.Twin()
		third := twin.Twin()
		if twin == s || third == twin || third == s {
			t.Fatal("a twin is what it was made of")
		}
		checkState(t, twin, h)
		checkSame(t, s, twin, true)
		checkSame(t, s, third, true)
	}
	s := stateOf(t, some())
	twin := s.Twin()
	third := twin.Twin()
	checkApply(t, twin, mark(1, 2, 2, 45), api.Taken, some().open[:2]...)
	checkApply(t, s, add(0, 6, 6, "a", 39, 6), api.Taken)
	checkApply(t, third, add(1, 1, 1, "z", 39, 1), api.Taken)
	checkApply(t, third, add(2, 103, 103, "z", 20, 1), api.Late)

	want := some()
	want.open[0] = out("a", 30, 5, 6)
	want.lows[0] = 6
	want.answers[0] = said(0, 6, 1)
	checkState(t, s, want)
	want = some()
	want.mark, want.open, want.lows[1] = 45, want.open[2:], 2
	want.answers = slices.Insert(want.answers, 4, said(1, 2, 1))
	checkState(t, twin, want)
	want = some()
	want.open = slices.Insert(want.open, 2, out("z", 30, 1))
	want.lows[2] = 103
	want.answers = append(slices.Insert(want.answers[:4], 4, said(1, 1, 1), said(2, 103, 2)), some().answers[6:]...)
	checkState(t, third, want)
	checkSame(t, s, twin, false)
	checkSame(t, s, third, false)
	checkSame(t, twin, third, false)
}

// P13.3: twins of a state without anything go their own ways too.
func TestTwinOfNothing(t *testing.T) {
	s := shard.New()
	twin := s.Twin()
	checkApply(t, s, add(0, 1, 1, "a", 1, 1), api.Taken)
	checkApply(t, s, mark(0, 2, 2, 3), api.Taken)
	checkState(t, twin, has{lows: first})
	checkApply(t, twin, add(0, 1, 1, "b", 1, 2), api.Taken)
	checkState(t, s, has{mark: 3, open: []api.Out{out("a", 0, 1)}, lows: lows4{2, 1, 1, 1}, answers: []seen.Entry{said(0, 2, 1)}})
	checkState(t, twin, has{open: []api.Out{out("b", 0, 2)}, lows: first, answers: []seen.Entry{said(0, 1, 1)}})
}

// P13.3: states that have the same are the same, however they came to it; those that
// differ in one thing alone are not.
func TestSame(t *testing.T) {
	for i, a := range wholes() {
		for k, b := range wholes() {
			checkSame(t, stateOf(t, a), stateOf(t, b), i == k)
		}
	}
	h := has{mark: 14, open: []api.Out{out("a", 0, 5), out("b", 0, 6)}, lows: lows4{2, 3, 4, 5}, answers: []seen.Entry{said(0, 2, 1), said(3, 6, 2)}}
	s := stateOf(t, h)
	checkSame(t, s, stateOf(t, h), true)
	for _, other := range others(h) {
		checkSame(t, s, stateOf(t, other), false)
	}

	a, b := shard.New(), shard.New()
	checkApply(t, a, add(0, 1, 1, "a", 3, 5), api.Taken)
	checkApply(t, a, add(0, 2, 1, "b", 13, 6), api.Taken)
	checkApply(t, b, add(0, 2, 1, "b", 10, 6), api.Taken)
	checkSame(t, a, b, false)
	checkApply(t, b, add(0, 1, 1, "a", 0, 5), api.Taken)
	checkSame(t, a, b, true)
}

// others have one thing alone other than h.
func others(h has) []has {
	var l []has
	change := func(do func(*has)) {
		other := h.clone()
		do(&other)
		l = append(l, other)
	}
	change(func(o *has) { o.mark = 13 })
	change(func(o *has) { o.mark = 0 })
	change(func(o *has) { o.open = o.open[:1] })
	change(func(o *has) { o.open = o.open[1:] })
	change(func(o *has) { o.open = nil })
	change(func(o *has) { o.open = append(o.open, out("c", 0, 1)) })
	change(func(o *has) { o.open[0].Key = "aa" })
	change(func(o *has) { o.open[1].Key = "b\x00" })
	change(func(o *has) { o.open[1].Start = 10 })
	change(func(o *has) { o.open[1].Agg = agg.Of([]int64{6, 6}) })
	change(func(o *has) { o.open[0].Agg = agg.Of([]int64{4}) })
	change(func(o *has) { o.open[0].Agg.Sum = 6 })
	for src := range len(h.lows) {
		change(func(o *has) { o.lows[src]-- })
	}
	change(func(o *has) { o.answers = o.answers[:1] })
	change(func(o *has) { o.answers = o.answers[1:] })
	change(func(o *has) { o.answers = nil })
	change(func(o *has) { o.answers[0].Code = 2 })
	change(func(o *has) { o.answers[1].Code = 4 })
	change(func(o *has) { o.answers[1].Seq = 7 })
	change(func(o *has) { o.answers[1].Src = 2 })
	change(func(o *has) { o.answers = append(o.answers, said(3, 7, 1)) })
	return l
}

// P13.3: a nil state refuses all, has nothing, and its twin is nil; two of them are the
// same, one and another are not.
func TestNilState(t *testing.T) {
	var s *shard.State
	for range 2 {
		for _, n := range append(wrongNumbers(), numbers{0, 1, 1}, numbers{3, 16, 1}, numbers{2, most, most}) {
			for _, x := range acting(n) {
				checkIdle(t, s, x, api.Refused)
			}
		}
		if s.Mark() != 0 || len(s.Open()) != 0 || len(s.Lows()) != 0 || len(s.Answers()) != 0 {
			t.Errorf("nil has %d, %s, %d, %v", s.Mark(), told(s.Open()), s.Lows(), s.Answers())
		}
		if s.Twin() != nil {
			t.Error("nil has a twin")
		}
	}
	checkSame(t, nil, nil, true)
	checkSame(t, s, s.Twin(), true)
	for _, h := range wholes() {
		checkSame(t, stateOf(t, h), nil, false)
	}
	checkSame(t, shard.New(), nil, false)
}

// P13.1, R4: what is handed in is not changed, its spare room neither, and not kept.
func TestWhatIsHandedInStays(t *testing.T) {
	h := some()
	slices.Reverse(h.open)
	was := h.clone()
	open, lows, answers := append(h.open, out("spare", 30, 1)), append(h.lows[:], 77), append(h.answers, said(3, 8, 1))
	s, e := shard.Of(h.mark, open[:4], lows[:4], answers[:8])
	if e != api.OK {
		t.Fatalf("Of is %d", e)
	}
	checkNone(t, api.ErrOld, 45, open[:4], lows[:4], answers[:8])
	checkNone(t, api.ErrArg, 44, open[:4], lows[:3], answers[:8])
	checkNone(t, api.ErrArg, 44, open[:4], lows[:4], answers[:9])
	if !slices.Equal(open, append(was.open, out("spare", 30, 1))) || !slices.Equal(lows, append(was.lows[:], 77)) || !slices.Equal(answers, append(was.answers, said(3, 8, 1))) {
		t.Errorf("what was handed in is now %s, %d, %v", told(open), lows, answers)
	}
	spoil(open, api.Out{Key: "spoilt", Start: -1})
	spoil(lows, -1)
	spoil(answers, said(9, 9, 9))
	checkState(t, s, some())
}

// P13.1, R4: what a state tells is the caller's: writing to it, in its spare room too,
// changes neither the state, nor its twin, nor another answer.
func TestAnswersAreTheCallers(t *testing.T) {
	s := stateOf(t, some())
	twin := s.Twin()
	open, lows, answers := s.Open(), s.Lows(), s.Answers()
	for range 2 {
		spoil(s.Open(), api.Out{Key: "spoilt", Start: -1})
		spoil(s.Lows(), -1)
		spoil(s.Answers(), said(9, 9, 9))
	}
	h := some()
	if !slices.Equal(open, h.open) || !slices.Equal(lows, h.lows[:]) || !slices.Equal(answers, h.answers) {
		t.Error("two answers share what they tell")
	}
	checkState(t, s, h)
	checkState(t, twin, h)
	_, over, _ := s.Apply(mark(1, 1, 1, 45))
	_, again, _ := twin.Apply(mark(1, 1, 1, 45))
	spoil(over, api.Out{Key: "spoilt", Start: -1})
	if !slices.Equal(again, h.open[:2]) {
		t.Errorf("a twin told %s", told(again))
	}
	h.mark, h.open = 45, h.open[2:]
	h.answers = slices.Insert(h.answers, 4, said(1, 1, 1))
	checkState(t, s, h)
	checkState(t, twin, h)
}

// spoil writes over a list, and over its spare room.
func spoil[T any](l []T, with T) {
	l = l[:cap(l)]
	for i := range l {
		l[i] = with
	}
}

// R4: a key that is kept is no piece of what was handed in.
func TestKeysAreNotKept(t *testing.T) {
	long := strings.Repeat("key", 1000)
	s := stateOf(t, has{open: []api.Out{out(long[1:9], 10, 3)}, lows: first})
	checkApply(t, s, add(0, 1, 1, long[:3], 5, 1), api.Taken)
	_, over, _ := s.Twin().Apply(mark(0, 2, 1, last))
	for _, w := range append(s.Open(), over...) {
		begin, at := uintptr(unsafe.Pointer(unsafe.StringData(long))), uintptr(unsafe.Pointer(unsafe.StringData(w.Key)))
		if at >= begin && at < begin+uintptr(len(long)) {
			t.Fatalf("%q is a piece of what was handed in", w.Key)
		}
	}
}

// R3: states know nothing of one another, and asking changes nothing.
func TestStatesAreApart(t *testing.T) {
	s, other, made := shard.New(), shard.New(), stateOf(t, some())
	checkApply(t, s, add(0, 1, 1, "a", 3, 5), api.Taken)
	checkApply(t, other, mark(0, 1, 1, 15), api.Taken)
	checkApply(t, s, add(0, 2, 2, "a", 3, 6), api.Taken)
	checkApply(t, other, add(0, 2, 1, "a", 3, 5), api.Late)
	for range 20 {
		checkState(t, s, has{open: []api.Out{out("a", 0, 5, 6)}, lows: lows4{2, 1, 1, 1}, answers: []seen.Entry{said(0, 2, 1)}})
		checkState(t, other, has{mark: 15, lows: first, answers: []seen.Entry{said(0, 1, 1), said(0, 2, 2)}})
		checkState(t, made, some())
		checkSame(t, s, made, false)
		s.Twin().Apply(mark(0, 3, 3, last))
	}
}
