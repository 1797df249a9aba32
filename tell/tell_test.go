package tell_test

import (
	"fmt"
	"math"
	"slices"
	"strings"
	"testing"

	"meter/agg"
	"meter/api"
	"meter/tell"
)

const (
	top    = math.MaxInt64
	bottom = math.MinInt64
	// last is the last moment, and lastStart the Start of its window, which is over at no
	// mark.
	last      = int64(1) << 40
	lastStart = last - 6
	// room is how many windows may be open.
	room = 32
	// longest is a key of as many bytes as a key may have.
	longest = "0123456789abcdef"
)

// out is the window that has these values.
func out(key string, start int64, values ...int64) api.Out {
	return api.Out{Key: key, Start: start, Agg: agg.Of(values)}
}

// told is windows as a failed test should tell them.
func told(l []api.Out) string {
	var s strings.Builder
	for _, w := range l {
		fmt.Fprintf(&s, "%.20q from %d: %v; ", w.Key, w.Start, w.Agg)
	}
	return s.String()
}

// checkLine holds a line's mark and open windows against what they should be.
func checkLine(t *testing.T, l *tell.Line, mark int64, open ...api.Out) {
	t.Helper()
	if got := l.At(); got != mark {
		t.Fatalf("At is %d, want %d", got, mark)
	}
	if got := l.Open(); !slices.Equal(got, open) {
		t.Fatalf("Open is %s, want %s", told(got), told(open))
	}
}

func checkPut(t *testing.T, l *tell.Line, key string, at, v int64, want int) {
	t.Helper()
	if got := l.Put(key, at, v); got != want {
		t.Fatalf("Put(%.20q, %d, %d) is %d, want %d", key, at, v, got, want)
	}
}

func checkMark(t *testing.T, l *tell.Line, at int64, code int, want ...api.Out) {
	t.Helper()
	if c, got := l.Mark(at); c != code || !slices.Equal(got, want) {
		t.Fatalf("Mark(%d) is %d, %s, want %d, %s", at, c, told(got), code, told(want))
	}
}

// lineOf is a line of a mark and windows that are right.
func lineOf(t *testing.T, mark int64, open ...api.Out) *tell.Line {
	t.Helper()
	l, e := tell.Of(mark, open)
	if l == nil || e != api.OK {
		t.Fatalf("Of(%d, %s) is %p, %d", mark, told(open), l, e)
	}
	return l
}

// checkNone asks for a line that there is none of.
func checkNone(t *testing.T, mark int64, want api.Errno, open ...api.Out) {
	t.Helper()
	if l, e := tell.Of(mark, open); l != nil || e != want {
		t.Fatalf("Of(%d, %s) is %p, %d, want nil, %d", mark, told(open), l, e, want)
	}
}

// fullRow is as many windows as may be open, in their row: of the keys a and b, from a
// Start on.
func fullRow(from int64) []api.Out {
	var l []api.Out
	for i := range int64(room / 2) {
		l = append(l, out("a", from+10*i, i+1), out("b", from+10*i, -i))
	}
	return l
}

// mixedRow is windows in their row, as layer 9 orders them: keys that begin one another,
// that are no text, and Starts of one digit more than others.
func mixedRow() []api.Out {
	return []api.Out{
		out("a", 0, 1), out("b", 0, 2), out("z", 0, 3),
		out("\x00", 10, 4), out("\x00\x00", 10, 5), out("A", 10, 6), out("a", 10, 7), out("a\x00", 10, 8), out("aa", 10, 9), out("b", 10, 10),
		out(longest, 20, 11), out("é", 20, 12), out("\xff", 20, 13), out("\xff\x00", 20, 14),
		out("a", 90, 15), out("a", 100, 16), out("\x00", 1<<39-8, 17), out("a", lastStart-10, 18), out("A", lastStart, 19),
	}
}

func wrongKeys() []string {
	return []string{"", longest + "g", strings.Repeat("\x00", 17), strings.Repeat("a", 256), strings.Repeat("a", 65537)}
}

func wrongMoments() []int64 {
	return []int64{-1, -5, -10, -15, bottom, bottom + 8, last + 1, last + 4, last + 14, 1 << 41, top - 7, top}
}

// wrongStarts are no Starts of windows, though some of them are moments.
func wrongStarts() []int64 {
	return []int64{-1, -10, -20, 1, 5, 9, 11, 19, 155, bottom, bottom + 8, lastStart - 1, lastStart + 1, last, last + 4, last + 14, top, top - 7}
}

// wrongAggs are not right, or have no value.
func wrongAggs() []api.Agg {
	return []api.Agg{
		{}, {Sum: 1}, {Hist: [4]int64{0, 1, 0, 0}}, {Count: 0, Hist: [4]int64{0, top, 0, 0}},
		{Count: -1}, {Count: bottom}, {Count: -1, Sum: 3, Min: 3, Max: 3, Hist: [4]int64{0, 1, 0, 0}},
		{Count: 1}, {Count: 2, Sum: 3, Min: 3, Max: 3, Hist: [4]int64{0, 1, 0, 0}},
		{Count: 1, Sum: 3, Min: 4, Max: 3, Hist: [4]int64{0, 1, 0, 0}},
		{Count: 1, Sum: 3, Min: 3, Max: 3, Hist: [4]int64{0, 0, 1, 0}},
		{Count: 1, Sum: 3, Min: 3, Max: 3, Hist: [4]int64{-1, 2, 0, 0}},
	}
}

// The numbers that the chapter names.
func TestCodes(t *testing.T) {
	l := lineOf(t, 25, fullRow(20)...)
	for _, c := range []struct {
		key  string
		at   int64
		want int
	}{{"a", 20, 1}, {"a", 9, 2}, {"c", 20, 3}, {"", 20, 4}} {
		checkPut(t, l, c.key, c.at, 1, c.want)
	}
	checkMark(t, l, 20, 1)
	checkMark(t, l, -1, 4)
	checkNone(t, -1, 1)
	checkNone(t, 0, 5, out("a", 0, 1), out("a", 0, 1))
	checkNone(t, 0, 6, append(fullRow(0), out("c", 0, 1))...)
	checkNone(t, 15, 12, out("a", 0, 1))
}

// P10.1 to P10.3: the chapter's examples.
func TestExamples(t *testing.T) {
	l := tell.New()
	checkPut(t, l, "a", 3, 5, api.Taken)
	checkPut(t, l, "b", 12, 7, api.Taken)
	checkMark(t, l, 14, api.Taken)
	checkMark(t, l, 15, api.Taken, out("a", 0, 5))
	checkPut(t, l, "a", 4, 1, api.Late)
	checkPut(t, l, "a", 10, 1, api.Taken)
	checkMark(t, l, 15, api.Taken)
	checkMark(t, l, 25, api.Taken, out("a", 10, 1), out("b", 10, 7))
	checkMark(t, l, -1, api.Refused)
	checkLine(t, l, 25)
	checkNone(t, 15, api.ErrOld, out("a", 0, 1))
	checkNone(t, -1, api.ErrArg)
}

// DOC.md: the whole's fifth example.
func TestAValueAtThirteen(t *testing.T) {
	for _, c := range []struct {
		mark int64
		want int
	}{{0, api.Taken}, {24, api.Taken}, {25, api.Late}, {26, api.Late}} {
		l := tell.New()
		checkMark(t, l, c.mark, api.Taken)
		checkPut(t, l, "a", 13, 1, c.want)
	}
}

// P10.1: a new line is at 0, has no windows, and is not another one.
func TestNew(t *testing.T) {
	l, other := tell.New(), tell.New()
	if l == nil || other == nil || l == other {
		t.Fatalf("New is %p and %p", l, other)
	}
	checkLine(t, l, 0)
	checkPut(t, l, "a", 0, 1, api.Taken)
	checkMark(t, l, 7, api.Taken)
	checkLine(t, l, 7, out("a", 0, 1))
	checkLine(t, other, 0)
	checkLine(t, tell.New(), 0)
}

// P10.1: a line that New did not make is at 0 and has no windows.
func TestZeroLine(t *testing.T) {
	var put, mark, idle tell.Line
	checkLine(t, &idle, 0)
	twin := idle.Twin()
	checkLine(t, twin, 0)
	checkPut(t, twin, "a", 3, 1, api.Taken)
	checkLine(t, twin, 0, out("a", 0, 1))
	checkLine(t, &idle, 0)
	checkPut(t, &put, "", 3, 1, api.Refused)
	checkPut(t, &put, "a", 3, 1, api.Taken)
	checkPut(t, &put, "a", 4, 2, api.Taken)
	checkMark(t, &put, 15, api.Taken, out("a", 0, 1, 2))
	checkMark(t, &mark, -1, api.Refused)
	checkMark(t, &mark, 15, api.Taken)
	checkPut(t, &mark, "a", 3, 1, api.Late)
	checkPut(t, &mark, "a", 13, 1, api.Taken)
	checkLine(t, &mark, 15, out("a", 10, 1))
}

// P10.1: a line of no windows is at its mark, the first and the last moment among them.
func TestOfNoWindows(t *testing.T) {
	for _, mark := range []int64{0, 1, 9, 10, 15, 1 << 32, 1 << 39, last - 1, last} {
		checkLine(t, lineOf(t, mark), mark)
		l := lineOf(t, mark, []api.Out{}...)
		checkLine(t, l, mark)
		checkMark(t, l, mark, api.Taken)
		checkPut(t, l, "a", mark, 3, api.Taken)
		checkLine(t, l, mark, out("a", mark-mark%10, 3))
	}
}

// P10.1: what is no moment is no mark, whatever the windows are.
func TestOfWrongMarks(t *testing.T) {
	for _, mark := range wrongMoments() {
		checkNone(t, mark, api.ErrArg)
		checkNone(t, mark, api.ErrArg, out("a", 0, 1))
		checkNone(t, mark, api.ErrArg, out("a", 0, 1), out("a", 0, 1))
		checkNone(t, mark, api.ErrArg, append(fullRow(0), out("c", 0, 1))...)
		checkNone(t, mark, api.ErrArg, out("", 3))
	}
}

// P10.1, P10.3: windows in whatever row are open in theirs, and are told in it.
func TestOfAnyRow(t *testing.T) {
	n := noise(1)
	for k := range 100 {
		mark := []int64{0, 14}[k%2]
		came := mixedRow()
		switch k / 2 {
		case 0:
		case 1:
			slices.Reverse(came)
		default:
			n.turn(came)
		}
		l := lineOf(t, mark, came...)
		checkLine(t, l, mark, mixedRow()...)
		checkMark(t, l, 34, api.Taken, mixedRow()[:10]...)
		checkLine(t, l, 34, mixedRow()[10:]...)
	}
}

// P10.1: windows of any right aggregate; values come to them.
func TestOfAnyAggregate(t *testing.T) {
	for _, a := range []api.Agg{
		agg.Of([]int64{0}), agg.Of([]int64{-1, 9, 10}), agg.Of([]int64{top, top, bottom}),
		{Count: 1, Sum: 77, Min: 3, Max: 3, Hist: [4]int64{0, 1, 0, 0}},
		{Count: top, Sum: top, Min: 1, Max: 9, Hist: [4]int64{0, top, 0, 0}},
	} {
		w := api.Out{Key: "a", Start: 20, Agg: a}
		l := lineOf(t, 34, w)
		checkLine(t, l, 34, w)
		checkPut(t, l, "a", 25, 3, api.Taken)
		w.Agg = agg.Put(a, 3)
		checkLine(t, l, 34, w)
		checkMark(t, l, 35, api.Taken, w)
	}
}

// P10.1: a window may be open just ahead of the mark at which it is over, and no more at
// it.
func TestOfWindowsThatAreOver(t *testing.T) {
	for _, start := range []int64{0, 10, 90, 100, 1<<39 - 8, lastStart - 10} {
		for _, mark := range []int64{0, start, start + 10, start + 14} {
			checkLine(t, lineOf(t, mark, out("a", start, 3)), mark, out("a", start, 3))
		}
		for _, mark := range []int64{start + 15, start + 16, last - 1, last} {
			checkNone(t, mark, api.ErrOld, out("a", start, 3))
			checkNone(t, mark, api.ErrOld, out("b", lastStart, 3), out("a", start, 3))
			checkNone(t, mark, api.ErrOld, out("a", start, 3), out("b", lastStart, 3))
		}
	}
	checkLine(t, lineOf(t, last, out("a", lastStart, 3)), last, out("a", lastStart, 3))
}

// P10.1: what may be no open window, at any place of the list.
func TestOfWrongWindows(t *testing.T) {
	wrong := []api.Out{{}}
	for _, key := range wrongKeys() {
		wrong = append(wrong, out(key, 30, 1))
	}
	for _, start := range wrongStarts() {
		wrong = append(wrong, out("a", start, 1))
	}
	for _, a := range wrongAggs() {
		wrong = append(wrong, api.Out{Key: "a", Start: 30, Agg: a})
	}
	for _, w := range wrong {
		checkNone(t, 0, api.ErrArg, w)
		checkNone(t, 0, api.ErrArg, w, out("b", 30, 1))
		checkNone(t, 0, api.ErrArg, out("b", 30, 1), w)
		checkNone(t, 0, api.ErrArg, out("b", 30, 1), w, out("c", 30, 1))
		checkNone(t, 0, api.ErrArg, append(fullRow(30)[1:], w)...)
	}
}

// P10.1: what is no Start is no Start of a window that is over.
func TestOfWrongStartsAtTheLastMark(t *testing.T) {
	for _, start := range wrongStarts() {
		checkNone(t, last, api.ErrArg, out("a", start, 1))
	}
}

// P10.1: no window may come twice.
func TestOfWindowsTwice(t *testing.T) {
	row := fullRow(30)
	for i, w := range row {
		checkNone(t, 44, api.ErrThere, append(slices.Clone(row[:i+1]), w)...)
		checkNone(t, 44, api.ErrThere, slices.Insert(slices.Clone(row[:room-1]), min(i, room-2), row[min(i, room-2)])...)
		checkNone(t, 44, api.ErrThere, append(slices.Clone(row), out(w.Key, w.Start, 5, 6))...)
	}
}

// P10.1: 32 windows may be open, and no 33rd.
func TestOfManyWindows(t *testing.T) {
	row := fullRow(30)
	for i := range room + 1 {
		checkLine(t, lineOf(t, 44, row[:i]...), 44, row[:i]...)
	}
	for _, w := range []api.Out{out("c", 30, 1), out("a\x00", 30, 1), out("a", 190, 1), out("a", lastStart, 1)} {
		checkNone(t, 44, api.ErrFull, append(slices.Clone(row), w)...)
		checkNone(t, 44, api.ErrFull, append([]api.Out{w}, row...)...)
		checkNone(t, 44, api.ErrFull, append(slices.Clone(row), w, w)...)
	}
}

// P10.1, R2: which error is told where two could be: of one window what the promise
// names first, of several windows the first one's.
func TestOfTellsTheFirstError(t *testing.T) {
	row := fullRow(30)
	there, full := row[3], out("c", 30, 1)
	old, wrong := out("a", 20, 1), out("", 30, 1)
	for _, a := range wrongAggs() {
		checkNone(t, 44, api.ErrOld, api.Out{Key: "a", Start: 20, Agg: a})
	}
	for _, key := range wrongKeys() {
		checkNone(t, 44, api.ErrOld, out(key, 20, 1))
	}
	for _, c := range []struct {
		behind []api.Out
		want   api.Errno
	}{
		{[]api.Out{old, old}, api.ErrOld},
		{[]api.Out{old}, api.ErrOld},
		{[]api.Out{wrong}, api.ErrArg},
		{[]api.Out{there}, api.ErrThere},
		{[]api.Out{{Key: there.Key, Start: there.Start}}, api.ErrArg},
		{[]api.Out{full}, api.ErrFull},
		{[]api.Out{wrong, old}, api.ErrArg},
		{[]api.Out{there, old}, api.ErrThere},
		{[]api.Out{full, old}, api.ErrFull},
		{[]api.Out{old, wrong}, api.ErrOld},
		{[]api.Out{there, wrong}, api.ErrThere},
		{[]api.Out{full, wrong}, api.ErrFull},
		{[]api.Out{full, there}, api.ErrFull},
		{[]api.Out{there, full}, api.ErrThere},
		{[]api.Out{wrong, full, there, old}, api.ErrArg},
	} {
		checkNone(t, 44, c.want, append(slices.Clone(row), c.behind...)...)
	}
	checkNone(t, 44, api.ErrOld, append([]api.Out{old}, append(row, full)...)...)
	checkNone(t, 44, api.ErrOld, out("a", 30, 1), old, out("a", 30, 1))
	checkNone(t, 44, api.ErrThere, out("a", 30, 1), out("a", 30, 1), old)
}

// P10.2: a value comes into the window of its moment, the ends of the moments among them.
func TestPut(t *testing.T) {
	for _, c := range []struct{ at, start int64 }{
		{0, 0}, {1, 0}, {9, 0}, {10, 10}, {19, 10}, {20, 20}, {99, 90}, {100, 100},
		{last, lastStart}, {last - 1, lastStart}, {lastStart, lastStart}, {lastStart - 1, lastStart - 10}, {1 << 39, 1<<39 - 8},
	} {
		for _, v := range []int64{0, 1, -1, 9, 10, 99, 100, top, bottom} {
			l := tell.New()
			checkPut(t, l, "k", c.at, v, api.Taken)
			checkLine(t, l, 0, out("k", c.start, v))
			checkPut(t, l, "k", c.start, 3, api.Taken)
			checkLine(t, l, 0, out("k", c.start, v, 3))
			checkPut(t, l, longest, c.at, v, api.Taken)
			if got := l.Open(); len(got) != 2 || !slices.Contains(got, out(longest, c.start, v)) {
				t.Fatalf("Open is %s", told(got))
			}
		}
	}
}

// P10.2: what is no key or no moment is refused, and changes nothing, whether it would be
// late, or have no room, or not.
func TestPutRefuses(t *testing.T) {
	for _, open := range [][]api.Out{nil, {out("a", 30, 1), out("b", 40, 2)}, fullRow(30)} {
		l := lineOf(t, 44, open...)
		for _, key := range wrongKeys() {
			for _, at := range []int64{0, 29, 30, 44, 500, last, -1, last + 1} {
				checkPut(t, l, key, at, 1, api.Refused)
			}
		}
		for _, at := range wrongMoments() {
			checkPut(t, l, "a", at, 1, api.Refused)
			checkPut(t, l, "new", at, 1, api.Refused)
			checkPut(t, l, "", at, 1, api.Refused)
		}
		checkLine(t, l, 44, open...)
	}
	l := lineOf(t, last, out("a", lastStart, 1))
	for _, at := range wrongMoments() {
		checkPut(t, l, "a", at, 1, api.Refused)
	}
	checkLine(t, l, last, out("a", lastStart, 1))
}

// P10.2: a moment is late from the mark on at which its window is over, whether that was
// told or was never open.
func TestPutOfLateMoments(t *testing.T) {
	for _, start := range []int64{0, 10, 90, 100, 1<<39 - 8, lastStart - 10} {
		for by := range int64(10) {
			l := tell.New()
			checkMark(t, l, start+14, api.Taken)
			checkPut(t, l, "a", start+by, 1, api.Taken)
			checkLine(t, l, start+14, out("a", start, 1))
			checkPut(t, l, "a", start+by, 2, api.Taken)
			checkMark(t, l, start+15, api.Taken, out("a", start, 1, 2))
			for _, key := range []string{"a", "b", longest} {
				checkPut(t, l, key, start+by, 3, api.Late)
			}
			checkLine(t, l, start+15)
			checkPut(t, l, "a", start+10, 4, api.Taken)
			checkPut(t, l, "a", start+9, 5, api.Late)
			checkLine(t, l, start+15, out("a", start+10, 4))
			l.Mark(last)
			checkPut(t, l, "a", start+by, 6, api.Late)
		}
	}
}

// P10.2: the last window is late at no mark.
func TestPutIntoTheLastWindow(t *testing.T) {
	l := lineOf(t, last)
	checkPut(t, l, "a", lastStart-1, 1, api.Late)
	checkPut(t, l, "a", lastStart, 2, api.Taken)
	checkPut(t, l, "a", last, 3, api.Taken)
	checkPut(t, l, "a", last+1, 4, api.Refused)
	checkMark(t, l, last, api.Taken)
	checkLine(t, l, last, out("a", lastStart, 2, 3))
}

// P10.2: there is room for 32 windows and not for 33; a value for one of the 32 has
// room, and so has a 32nd window when others were told.
func TestPutIntoAFullLine(t *testing.T) {
	l := lineOf(t, 44)
	want := fullRow(30)
	for i, w := range want {
		checkLine(t, l, 44, want[:i]...)
		checkPut(t, l, w.Key, w.Start+3, w.Agg.Sum, api.Taken)
	}
	for _, c := range []struct {
		key  string
		at   int64
		code int
	}{
		{"c", 30, api.NoRoom}, {"a\x00", 39, api.NoRoom}, {"a", 190, api.NoRoom}, {longest, last, api.NoRoom}, {"b", lastStart, api.NoRoom},
		{"c", 29, api.Late}, {"a", 29, api.Late}, {longest, 0, api.Late},
		{"", 30, api.Refused}, {"", 29, api.Refused}, {longest + "g", 190, api.Refused}, {"c", -1, api.Refused}, {"a", last + 1, api.Refused},
	} {
		checkPut(t, l, c.key, c.at, 1, c.code)
		checkLine(t, l, 44, want...)
	}
	for i, w := range want {
		checkPut(t, l, w.Key, w.Start+9, 1000, api.Taken)
		want[i].Agg = agg.Put(w.Agg, 1000)
		checkLine(t, l, 44, want...)
	}
	checkMark(t, l, 45, api.Taken, want[:2]...)
	checkPut(t, l, "c", 30, 1, api.Late)
	checkPut(t, l, "c", 40, 1, api.Taken)
	checkPut(t, l, "a", 190, 2, api.Taken)
	checkPut(t, l, "b", 190, 3, api.NoRoom)
	checkPut(t, l, "c", 49, 4, api.Taken)
	checkLine(t, l, 45, slices.Concat(want[2:4], []api.Out{out("c", 40, 1, 4)}, want[4:], []api.Out{out("a", 190, 2)})...)
}

// P10.3: what is no moment is refused, tells nothing and changes nothing.
func TestMarkRefuses(t *testing.T) {
	for _, mark := range []int64{0, 14, 24} {
		row := []api.Out{out("a", 10, 1), out("b", 10, 2), out("a", 20, 3), out("a", lastStart, 4)}
		l := lineOf(t, mark, row...)
		for _, at := range wrongMoments() {
			checkMark(t, l, at, api.Refused)
			checkLine(t, l, mark, row...)
		}
	}
}

// P10.3: a mark that is not above the mark is Taken, tells nothing and changes nothing.
func TestMarkThatDoesNotRise(t *testing.T) {
	for _, mark := range []int64{0, 1, 24, 1 << 39, last - 1, last} {
		row := []api.Out{out("a", mark-mark%10, 1), out("b", mark-mark%10, 2)}
		l := lineOf(t, mark, row...)
		for _, at := range []int64{mark, mark - 1, mark - 15, mark / 2, 1, 0} {
			if at >= 0 && at <= mark {
				checkMark(t, l, at, api.Taken)
				checkLine(t, l, mark, row...)
			}
		}
		if mark >= 15 {
			checkPut(t, l, "a", 0, 1, api.Late)
		}
	}
}

// P10.3: a mark at which none, one or many are over: they are told in their row, and the
// rest stays.
func TestMark(t *testing.T) {
	row := mixedRow()
	n := noise(2)
	for _, c := range []struct {
		mark int64
		told int
	}{{1, 0}, {14, 0}, {15, 3}, {24, 3}, {25, 10}, {34, 10}, {35, 14}, {36, 14}, {104, 14}, {105, 15}, {115, 16}, {1<<39 + 6, 16}, {1<<39 + 7, 17}, {last - 2, 17}, {last - 1, 18}, {last, 18}} {
		l := tell.New()
		came := slices.Clone(row)
		n.turn(came)
		for _, w := range came {
			checkPut(t, l, w.Key, min(w.Start+n.below(10), last), w.Agg.Sum, api.Taken)
		}
		checkMark(t, l, c.mark, api.Taken, row[:c.told]...)
		checkLine(t, l, c.mark, row[c.told:]...)
		checkMark(t, l, c.mark, api.Taken)
		checkMark(t, l, 0, api.Taken)
		checkLine(t, l, c.mark, row[c.told:]...)
		for _, w := range row[:c.told] {
			checkPut(t, l, w.Key, w.Start, 1, api.Late)
		}
		checkMark(t, l, last, api.Taken, row[min(c.told, 18):18]...)
		checkLine(t, l, last, row[18])
	}
}

// P10.3: marks that rise by one tell each window at its own mark.
func TestMarksOneByOne(t *testing.T) {
	l := lineOf(t, 0, mixedRow()[:16]...)
	rest := mixedRow()[:16]
	for at := int64(1); at <= 120; at++ {
		count := 0
		for count < len(rest) && rest[count].Start+15 == at {
			count++
		}
		checkMark(t, l, at, api.Taken, rest[:count]...)
		rest = rest[count:]
		checkLine(t, l, at, rest...)
	}
	checkLine(t, l, 120)
}

// P10.3: a full line tells all that it has at once.
func TestMarkOfAFullLine(t *testing.T) {
	l := lineOf(t, 44, fullRow(30)...)
	checkMark(t, l, 195, api.Taken, fullRow(30)...)
	checkLine(t, l, 195)
	checkMark(t, l, last, api.Taken)
	checkLine(t, l, last)
}

// P10.4: a twin has the same; what is done to one of them is not done to the other.
func TestTwin(t *testing.T) {
	row := []api.Out{out("a", 0, 1), out("a", 10, 2), out("b", 10, 3)}
	l := lineOf(t, 14, row...)
	twin := l.Twin()
	third := twin.Twin()
	if twin == l || third == twin || third == l {
		t.Fatal("a twin is what it was made of")
	}
	checkLine(t, twin, 14, row...)

	checkPut(t, twin, "a", 5, 50, api.Taken)
	checkPut(t, twin, "c", 5, 60, api.Taken)
	checkMark(t, l, 15, api.Taken, row[0])
	checkPut(t, l, "b", 15, 70, api.Taken)
	checkPut(t, l, "c", 5, 80, api.Late)
	checkMark(t, third, 40, api.Taken, row...)
	checkPut(t, third, "z", 30, 90, api.Taken)

	checkLine(t, l, 15, out("a", 10, 2), out("b", 10, 3, 70))
	checkLine(t, twin, 14, out("a", 0, 1, 50), out("c", 0, 60), out("a", 10, 2), out("b", 10, 3))
	checkLine(t, third, 40, out("z", 30, 90))
	checkMark(t, twin, 15, api.Taken, out("a", 0, 1, 50), out("c", 0, 60))
	checkLine(t, l, 15, out("a", 10, 2), out("b", 10, 3, 70))
}

// P10.4: twins of a line without windows and of a full one go their own ways too.
func TestTwinOfNoneAndOfMany(t *testing.T) {
	l := tell.New()
	twin := l.Twin()
	checkPut(t, l, "a", 1, 1, api.Taken)
	checkMark(t, l, 3, api.Taken)
	checkLine(t, twin, 0)
	checkPut(t, twin, "b", 1, 2, api.Taken)
	checkLine(t, l, 3, out("a", 0, 1))
	checkLine(t, twin, 0, out("b", 0, 2))

	full := lineOf(t, 44, fullRow(30)...)
	twin = full.Twin()
	checkPut(t, twin, "new", 40, 1, api.NoRoom)
	checkMark(t, twin, 45, api.Taken, fullRow(30)[:2]...)
	checkPut(t, twin, "new", 40, 1, api.Taken)
	checkPut(t, full, "new", 40, 1, api.NoRoom)
	checkLine(t, full, 44, fullRow(30)...)
}

// P10.4: a nil line refuses all, has nothing, and its twin is nil.
func TestNilLine(t *testing.T) {
	var l *tell.Line
	for range 2 {
		checkLine(t, l, 0)
		checkPut(t, l, "a", 1, 1, api.Refused)
		checkPut(t, l, "", 1, 1, api.Refused)
		checkPut(t, l, "a", -1, 1, api.Refused)
		checkPut(t, l, "a", last, 1, api.Refused)
		for _, at := range []int64{0, 1, 15, last, -1, last + 1, top, bottom} {
			checkMark(t, l, at, api.Refused)
		}
		if twin := l.Twin(); twin != nil {
			t.Error("nil has a twin")
		}
	}
}
