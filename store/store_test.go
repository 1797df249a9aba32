package store_test

import (
	"fmt"
	"math"
	"slices"
	"strings"
	"testing"

	"meter/agg"
	"meter/api"
	"meter/store"
)

const (
	top    = math.MaxInt64
	bottom = math.MinInt64
	// last is the last moment, and lastStart the Start of its window.
	last      = int64(1) << 40
	lastStart = last - 6
	// room is how many windows may be open.
	room = 32
	// longest is a key of as many bytes as a key may have.
	longest = "0123456789abcdef"
)

// out is the window that has these values.
func out(key string, start int64, values ...int64) api.Out {
	return api.Out{Key: key, Start: start, Agg: agg.Of(values)}
}

// short is as much of a key as a failed test should tell.
func short(key string) string { return fmt.Sprintf("%.20q", key) }

// told is windows as a failed test should tell them.
func told(l []api.Out) string {
	var s strings.Builder
	for _, w := range l {
		fmt.Fprintf(&s, "%q from %d: %v; ", w.Key, w.Start, w.Agg)
	}
	return s.String()
}

// checkOpen holds all that tells what is open against what should be, in its row.
func checkOpen(t *testing.T, s *store.Store, want ...api.Out) {
	t.Helper()
	if got := s.All(); !slices.Equal(got, want) {
		t.Fatalf("All is %s, want %s", told(got), told(want))
	}
	if got := s.Len(); got != len(want) {
		t.Fatalf("Len is %d, want %d", got, len(want))
	}
	for _, w := range want {
		checkGet(t, s, w.Key, w.Start, w.Agg, true)
	}
}

func checkGet(t *testing.T, s *store.Store, key string, start int64, want api.Agg, there bool) {
	t.Helper()
	if a, ok := s.Get(key, start); a != want || ok != there {
		t.Fatalf("Get(%s, %d) is %v, %v, want %v, %v", short(key), start, a, ok, want, there)
	}
}

func checkPut(t *testing.T, s *store.Store, key string, at, v int64, want api.Errno) {
	t.Helper()
	if e := s.Put(key, at, v); e != want {
		t.Fatalf("Put(%s, %d, %d) is %d, want %d", short(key), at, v, e, want)
	}
}

func checkSet(t *testing.T, s *store.Store, w api.Out, want api.Errno) {
	t.Helper()
	if e := s.Set(w); e != want {
		t.Fatalf("Set(%s, %d, %v) is %d, want %d", short(w.Key), w.Start, w.Agg, e, want)
	}
}

func checkTake(t *testing.T, s *store.Store, mark int64, want ...api.Out) {
	t.Helper()
	if got := s.Take(mark); !slices.Equal(got, want) {
		t.Fatalf("Take(%d) is %s, want %s", mark, told(got), told(want))
	}
}

// storeOf is a store into which these windows were set.
func storeOf(t *testing.T, windows ...api.Out) *store.Store {
	t.Helper()
	s := store.New()
	for _, w := range windows {
		checkSet(t, s, w, api.OK)
	}
	return s
}

// fullRow is as many windows as may be open, in their row: of the keys a and b, from 0 on.
func fullRow() []api.Out {
	var l []api.Out
	for i := range int64(room / 2) {
		l = append(l, out("a", 10*i, i+1), out("b", 10*i, -i))
	}
	return l
}

// P9.1 to P9.4: the chapter's examples.
func TestExamples(t *testing.T) {
	s := store.New()
	checkPut(t, s, "b", 12, 5, api.OK)
	checkPut(t, s, "a", 19, 7, api.OK)
	checkPut(t, s, "b", 10, 1, api.OK)
	checkPut(t, s, "a", 3, 2, api.OK)
	checkOpen(t, s, out("a", 0, 2), out("a", 10, 7), out("b", 10, 5, 1))
	checkTake(t, s, 14)
	checkTake(t, s, 15, out("a", 0, 2))
	if got := s.Len(); got != 2 {
		t.Errorf("Len is %d", got)
	}
	if a, ok := s.Get("b", 10); !ok || a.Count != 2 || a.Sum != 6 {
		t.Errorf("Get(b, 10) is %v, %v", a, ok)
	}
	checkOpen(t, s, out("a", 10, 7), out("b", 10, 5, 1))
	checkPut(t, s, "", 3, 1, api.ErrArg)
	checkPut(t, s, "a", -1, 1, api.ErrArg)
	checkSet(t, s, api.Out{Key: "a", Start: 3, Agg: agg.Of([]int64{2})}, api.ErrArg)
	checkOpen(t, s, out("a", 10, 7), out("b", 10, 5, 1))
}

// P9.1: a new store has nothing, and is not another one.
func TestNewHasNone(t *testing.T) {
	s, other := store.New(), store.New()
	if s == nil || other == nil || s == other {
		t.Fatalf("New is %p and %p", s, other)
	}
	checkOpen(t, s)
	checkGet(t, s, "a", 0, api.Agg{}, false)
	checkGet(t, s, "", 0, api.Agg{}, false)
	checkTake(t, s, last)
	checkPut(t, s, "a", 1, 1, api.OK)
	checkOpen(t, other)
	checkOpen(t, store.New())
	checkOpen(t, s, out("a", 0, 1))
}

// P9.1: a store that New did not make is one without windows.
func TestZeroStore(t *testing.T) {
	var put, set, idle store.Store
	checkOpen(t, &idle)
	checkGet(t, &idle, "a", 0, api.Agg{}, false)
	checkTake(t, &idle, last)
	twin := idle.Twin()
	checkOpen(t, twin)
	checkPut(t, twin, "a", 1, 1, api.OK)
	checkOpen(t, twin, out("a", 0, 1))
	checkOpen(t, &idle)
	checkPut(t, &put, "a", 1, 1, api.OK)
	checkOpen(t, &put, out("a", 0, 1))
	checkSet(t, &set, out("b", 10, 3), api.OK)
	checkOpen(t, &set, out("b", 10, 3))
}

// P9.1: bytes are counted, whatever they are.
func TestKey(t *testing.T) {
	for _, c := range []struct {
		key  string
		want bool
	}{
		{"", false}, {"a", true}, {"ab", true}, {longest[:15], true}, {longest, true}, {longest + "g", false}, {strings.Repeat("a", 256), false}, {strings.Repeat("a", 257), false}, {strings.Repeat("a", 65537), false},
		{"\x00", true}, {" ", true}, {"\n", true}, {"\xff", true}, {"\xc3", true}, {"a\xff\xfe", true},
		{strings.Repeat("\x00", 16), true}, {strings.Repeat("\x00", 17), false}, {strings.Repeat("\xff", 16), true}, {strings.Repeat("\xff", 17), false},
		{strings.Repeat("é", 8), true}, {strings.Repeat("é", 8) + "a", false}, {strings.Repeat("é", 9), false}, {strings.Repeat("é", 16), false},
	} {
		if got := store.Key(c.key); got != c.want {
			t.Errorf("Key(%s) of %d bytes is %v", short(c.key), len(c.key), got)
		}
	}
}

// P9.1: Get asks for the window of just that key and that Start.
func TestGet(t *testing.T) {
	s := storeOf(t, out("b", 10, 5, 1), out("a", 20, 7), out("b", lastStart, 8), out("ab", 30, 9))
	for range 2 {
		checkGet(t, s, "b", 10, agg.Of([]int64{5, 1}), true)
		checkGet(t, s, "a", 20, agg.Of([]int64{7}), true)
		checkGet(t, s, "b", lastStart, agg.Of([]int64{8}), true)
	}
	for _, start := range []int64{0, 9, 11, 12, 19, 20, -10, -1, 30, lastStart - 10, last, last + 4, top, bottom} {
		checkGet(t, s, "b", start, api.Agg{}, false)
	}
	for _, key := range []string{"", "a", "ab", "bb", "b\x00", "\x00b", "B", "c", "\xff", longest, longest + "g", strings.Repeat("b", 1000)} {
		checkGet(t, s, key, 10, api.Agg{}, false)
	}
	checkGet(t, s, "a", 30, api.Agg{}, false)
	checkGet(t, s, "b", 30, api.Agg{}, false)
	checkOpen(t, s, out("b", 10, 5, 1), out("a", 20, 7), out("ab", 30, 9), out("b", lastStart, 8))
}

// rowOfWindows is windows in their row, as the chapter orders them: keys that begin one
// another, that are no text, and Starts of one digit more than others.
func rowOfWindows() []api.Out {
	return []api.Out{
		out("a", 0, 1), out("b", 0, 2), out("z", 0, 3),
		out("\x00", 10, 4), out("\x00\x00", 10, 5), out("A", 10, 6), out("a", 10, 7), out("a\x00", 10, 8), out("aa", 10, 9), out("ab", 10, 10), out("b", 10, 11), out(longest, 20, 12),
		out("é", 20, 13), out("\xff", 20, 14), out("\xff\x00", 20, 15),
		out("a", 90, 16), out("a", 100, 17), out("\x00", 1<<39-8, 18), out("a", lastStart-10, 19), out("A", lastStart, 20),
	}
}

// P9.1, P9.6: All is in its row, whatever row the windows came in.
func TestAllIsInItsRow(t *testing.T) {
	want := rowOfWindows()
	n := noise(1)
	for k := range 200 {
		came := slices.Clone(want)
		switch k {
		case 0:
		case 1:
			slices.Reverse(came)
		default:
			n.turn(came)
		}
		put := store.New()
		for _, w := range came {
			checkPut(t, put, w.Key, min(w.Start+n.below(10), last), w.Agg.Sum, api.OK)
		}
		checkOpen(t, put, want...)
		checkOpen(t, storeOf(t, came...), want...)
	}
}

// P9.1: All of each few windows of some that lie close, in each row that they may come in.
func TestAllOfFewWindows(t *testing.T) {
	want := []api.Out{out("a", 0, 1), out("b", 0, 2), out("a", 10, 3), out("aa", 10, 4), out("b", 10, 5), out("a", 100, 6)}
	for i, x := range want {
		for j, y := range want {
			for k, z := range want {
				if i == j || i == k || j == k {
					continue
				}
				order := []int{i, j, k}
				slices.Sort(order)
				checkOpen(t, storeOf(t, x, y, z), want[order[0]], want[order[1]], want[order[2]])
			}
		}
	}
}

// P9.1: Len counts windows, not values and not keys.
func TestLen(t *testing.T) {
	s := store.New()
	for i, c := range []struct {
		key  string
		at   int64
		want int
	}{{"a", 0, 1}, {"a", 0, 1}, {"a", 9, 1}, {"a", 10, 2}, {"b", 0, 3}, {"b", 5, 3}, {"", 5, 3}, {"b", -5, 3}, {"b", last, 4}, {"b", lastStart, 4}, {"c", last - 7, 5}} {
		s.Put(c.key, c.at, 1)
		if got := s.Len(); got != c.want {
			t.Errorf("Len is %d behind Put %d, want %d", got, i, c.want)
		}
	}
	s.Take(15)
	if got := s.Len(); got != 3 {
		t.Errorf("Len is %d behind Take, want 3", got)
	}
}

// P9.2: a value is put into the window of its moment, the ends of the moments among them.
func TestPut(t *testing.T) {
	for _, c := range []struct{ at, start int64 }{
		{0, 0}, {1, 0}, {9, 0}, {10, 10}, {19, 10}, {20, 20}, {99, 90}, {100, 100},
		{last, lastStart}, {last - 1, lastStart}, {lastStart, lastStart}, {lastStart - 1, lastStart - 10}, {1 << 39, 1<<39 - 8},
	} {
		for _, v := range []int64{0, 1, -1, 9, 10, 99, 100, top, bottom} {
			s := store.New()
			checkPut(t, s, "k", c.at, v, api.OK)
			checkOpen(t, s, out("k", c.start, v))
			checkPut(t, s, "k", c.start, 3, api.OK)
			checkOpen(t, s, out("k", c.start, v, 3))
		}
	}
	for _, key := range []string{"a", longest, "\x00", "\xff\xfe", strings.Repeat("\xff", 16)} {
		s := store.New()
		checkPut(t, s, key, 5, 1, api.OK)
		checkPut(t, s, key, 6, top, api.OK)
		checkPut(t, s, key, 4, -1, api.OK)
		checkOpen(t, s, out(key, 0, 1, top, -1))
	}
}

// wrongKeys are none, wrongMoments are none.
func wrongKeys() []string {
	return []string{"", longest + "g", strings.Repeat("\x00", 17), strings.Repeat("a", 256), strings.Repeat("a", 65537)}
}

func wrongMoments() []int64 {
	return []int64{-1, -9, -10, -11, bottom, bottom + 8, last + 1, last + 4, last + 14, 1 << 41, top, top - 7}
}

// P9.2: what is no key, or no moment, changes nothing, in a store that is empty, has
// some windows, or is full.
func TestPutRefuses(t *testing.T) {
	for _, row := range [][]api.Out{nil, {out("a", 0, 1), out("b", 10, 2)}, fullRow()} {
		s := storeOf(t, row...)
		for _, key := range wrongKeys() {
			checkPut(t, s, key, 5, 1, api.ErrArg)
			checkPut(t, s, key, -5, 1, api.ErrArg)
			checkPut(t, s, key, 1000, 1, api.ErrArg)
		}
		for _, at := range wrongMoments() {
			checkPut(t, s, "a", at, 1, api.ErrArg)
			checkPut(t, s, "new", at, 1, api.ErrArg)
		}
		checkOpen(t, s, row...)
	}
}

// P9.2: there are 32 windows and not 33, but a value for one of the 32 has room.
func TestPutIntoAFullStore(t *testing.T) {
	s := store.New()
	want := fullRow()
	for i, w := range want {
		checkOpen(t, s, want[:i]...)
		checkPut(t, s, w.Key, w.Start+3, w.Agg.Sum, api.OK)
	}
	for _, c := range []struct {
		key string
		at  int64
	}{{"c", 0}, {"a\x00", 0}, {"ab", 9}, {"a", 160}, {"b", 165}, {"a", last}, {longest, last - 7}} {
		checkPut(t, s, c.key, c.at, 1, api.ErrFull)
		checkOpen(t, s, want...)
	}
	for i, w := range want {
		checkPut(t, s, w.Key, w.Start+9, 1000, api.OK)
		want[i].Agg = agg.Put(w.Agg, 1000)
		checkOpen(t, s, want...)
	}
	checkPut(t, s, "c", 0, 1, api.ErrFull)
	checkTake(t, s, 15, want[:2]...)
	checkPut(t, s, "c", 0, 1, api.OK)
	checkPut(t, s, "a", 160, 1, api.OK)
	checkPut(t, s, "b", 160, 1, api.ErrFull)
	checkOpen(t, s, slices.Concat([]api.Out{out("c", 0, 1)}, want[2:], []api.Out{out("a", 160, 1)})...)
}

// setAggs are aggregates that may be set: right, and of one value at least.
func setAggs() []api.Agg {
	return []api.Agg{
		agg.Of([]int64{0}), agg.Of([]int64{-1}), agg.Of([]int64{9, 10}), agg.Of([]int64{top}), agg.Of([]int64{bottom}), agg.Of([]int64{top, top, bottom, 50}),
		{Count: 1, Sum: 77, Min: 3, Max: 3, Hist: [4]int64{0, 1, 0, 0}},
		{Count: top, Sum: top, Min: 1, Max: 9, Hist: [4]int64{0, top, 0, 0}},
		{Count: 1, Sum: 0, Min: 200, Max: 300, Hist: [4]int64{0, top, 0, 0}},
		{Count: top, Min: -1, Max: 100, Hist: [4]int64{top - 1, 0, 5, top - 1}},
	}
}

// wrongAggs are not right, or have no value.
func wrongAggs() []api.Agg {
	return []api.Agg{
		{},
		{Sum: 1}, {Min: 1, Max: 1}, {Hist: [4]int64{0, 1, 0, 0}},
		{Count: -1}, {Count: bottom}, {Count: -1, Sum: 3, Min: 3, Max: 3, Hist: [4]int64{0, 1, 0, 0}},
		{Count: 1}, {Count: 1, Min: 3, Max: 3}, {Count: 2, Sum: 3, Min: 3, Max: 3, Hist: [4]int64{0, 1, 0, 0}},
		{Count: 1, Sum: 3, Min: 4, Max: 3, Hist: [4]int64{0, 1, 0, 0}},
		{Count: 1, Sum: 3, Min: 3, Max: 3, Hist: [4]int64{0, 0, 1, 0}},
		{Count: 1, Sum: 3, Min: 3, Max: 3, Hist: [4]int64{-1, 2, 0, 0}},
		{Count: 1, Sum: 3, Min: 3, Max: 10, Hist: [4]int64{0, 1, 0, 0}},
		{Count: top, Sum: 3, Min: 3, Max: 3, Hist: [4]int64{-1, top, 0, 0}},
		{Count: 0, Hist: [4]int64{0, top, 0, 0}},
	}
}

// P9.3: a window that is set is open with that aggregate, and values come to it.
func TestSet(t *testing.T) {
	for _, start := range []int64{0, 10, 20, 100, 1<<39 - 8, lastStart - 10, lastStart} {
		for _, key := range []string{"a", longest, "\x00", "\xff\xfe"} {
			for _, a := range setAggs() {
				s := storeOf(t, api.Out{Key: key, Start: start, Agg: a})
				checkOpen(t, s, api.Out{Key: key, Start: start, Agg: a})
				checkPut(t, s, key, start+4, 12, api.OK)
				checkOpen(t, s, api.Out{Key: key, Start: start, Agg: agg.Put(a, 12)})
			}
		}
	}
	s := storeOf(t, out("b", 10, 1))
	checkPut(t, s, "a", 13, 2, api.OK)
	checkSet(t, s, out("b", 0, 3), api.OK)
	checkSet(t, s, out("bb", 10, 4), api.OK)
	checkOpen(t, s, out("b", 0, 3), out("a", 10, 2), out("b", 10, 1), out("bb", 10, 4))
}

// wrongStarts are no Starts of windows, though some of them are moments.
func wrongStarts() []int64 {
	return []int64{-1, -10, -20, 1, 3, 5, 9, 11, 19, 155, bottom, bottom + 8, lastStart - 1, lastStart + 1, last, last + 1, last + 4, last + 14, top, top - 7}
}

// P9.3: what may be no open window changes nothing.
func TestSetRefuses(t *testing.T) {
	for _, row := range [][]api.Out{nil, {out("a", 0, 1), out("b", 10, 2)}, fullRow()} {
		s := storeOf(t, row...)
		for _, key := range wrongKeys() {
			checkSet(t, s, out(key, 0, 1), api.ErrArg)
			checkSet(t, s, out(key, 1000, 1), api.ErrArg)
		}
		for _, start := range wrongStarts() {
			checkSet(t, s, out("a", start, 1), api.ErrArg)
			checkSet(t, s, out("new", start, 1), api.ErrArg)
		}
		for _, a := range wrongAggs() {
			checkSet(t, s, api.Out{Key: "a", Start: 0, Agg: a}, api.ErrArg)
			checkSet(t, s, api.Out{Key: "new", Start: 1000, Agg: a}, api.ErrArg)
		}
		checkSet(t, s, api.Out{}, api.ErrArg)
		checkOpen(t, s, row...)
	}
}

// P9.3: a window that is open can't be set, whether Put or Set opened it, with whatever
// aggregate, and in a full store too.
func TestSetOfAnOpenWindow(t *testing.T) {
	s := store.New()
	checkPut(t, s, "a", 15, 7, api.OK)
	checkSet(t, s, out("b", 10, 8), api.OK)
	for _, a := range setAggs() {
		checkSet(t, s, api.Out{Key: "a", Start: 10, Agg: a}, api.ErrThere)
		checkSet(t, s, api.Out{Key: "b", Start: 10, Agg: a}, api.ErrThere)
	}
	checkSet(t, s, out("a", 10, 7), api.ErrThere)
	checkOpen(t, s, out("a", 10, 7), out("b", 10, 8))

	full := storeOf(t, fullRow()...)
	for _, w := range fullRow() {
		checkSet(t, full, w, api.ErrThere)
		checkSet(t, full, out(w.Key, w.Start, 5, 5), api.ErrThere)
	}
	checkOpen(t, full, fullRow()...)
}

// P9.3: the 33rd window is refused, and one more is open when one was taken.
func TestSetIntoAFullStore(t *testing.T) {
	want := fullRow()
	s := storeOf(t, want[:room-1]...)
	checkSet(t, s, want[room-1], api.OK)
	for _, w := range []api.Out{out("c", 0, 1), out("ab", 10, 1), out("a\x00", 10, 1), out("a", 160, 1), out("a", lastStart, 1)} {
		checkSet(t, s, w, api.ErrFull)
		checkOpen(t, s, want...)
	}
	checkTake(t, s, 15, want[:2]...)
	checkSet(t, s, out("a", 160, 1), api.OK)
	checkSet(t, s, out("c", 0, 1), api.OK)
	checkSet(t, s, out("d", 0, 1), api.ErrFull)
	checkSet(t, s, out("a", 0, 1), api.ErrFull)
	checkOpen(t, s, slices.Concat([]api.Out{out("c", 0, 1)}, want[2:], []api.Out{out("a", 160, 1)})...)
}

// P9.4: a window is taken once its end and Grace are not above the mark.
func TestTakeAtTheMark(t *testing.T) {
	for _, start := range []int64{0, 10, 20, 90, 1<<39 - 8, lastStart - 10} {
		for _, c := range []struct {
			mark int64
			over bool
		}{{start - 1, false}, {start, false}, {start + 10, false}, {start + 14, false}, {start + 15, true}, {start + 16, true}, {last, true}} {
			s := storeOf(t, out("a", start, 3))
			if !c.over || c.mark > last {
				checkTake(t, s, c.mark)
				checkOpen(t, s, out("a", start, 3))
				continue
			}
			checkTake(t, s, c.mark, out("a", start, 3))
			checkOpen(t, s)
			checkTake(t, s, c.mark)
		}
	}
}

// P9.4: the last window is over at no mark, and what is no mark takes nothing.
func TestTakeOfNone(t *testing.T) {
	row := []api.Out{out("a", 0, 1), out("b", 10, 2), out("a", lastStart, 3)}
	s := storeOf(t, row...)
	for _, mark := range []int64{-1, -15, bottom, bottom + 8, 0, 14, last + 1, last + 9, last + 14, 1 << 41, top - 7, top} {
		checkTake(t, s, mark)
		checkOpen(t, s, row...)
	}
	checkTake(t, s, last, row[:2]...)
	checkOpen(t, s, row[2])
}

// P9.4: one, many or all are taken, in their row; the rest stays.
func TestTakeOfMany(t *testing.T) {
	row := rowOfWindows()
	n := noise(2)
	for _, c := range []struct {
		mark  int64
		taken int
	}{{14, 0}, {15, 3}, {24, 3}, {25, 11}, {34, 11}, {35, 15}, {36, 15}, {104, 15}, {105, 16}, {115, 17}, {1<<39 + 6, 17}, {1<<39 + 7, 18}, {last - 2, 18}, {last - 1, 19}, {last, 19}} {
		came := slices.Clone(row)
		n.turn(came)
		s := storeOf(t, came...)
		checkTake(t, s, c.mark, row[:c.taken]...)
		checkOpen(t, s, row[c.taken:]...)
		checkTake(t, s, c.mark)
		checkOpen(t, s, row[c.taken:]...)
	}
	s := storeOf(t, row...)
	checkTake(t, s, 30, row[:11]...)
	checkTake(t, s, 15)
	checkTake(t, s, 105, row[11:16]...)
	checkTake(t, s, 115, row[16])
	checkOpen(t, s, row[17:]...)

	full := storeOf(t, fullRow()...)
	checkTake(t, full, 165, fullRow()...)
	checkOpen(t, full)
}

// P9.4: what was taken is not open, and may be put and set again, from nothing on.
func TestTakenWindowsMayOpenAgain(t *testing.T) {
	s := storeOf(t, out("a", 0, 5), out("b", 0, 6), out("a", 10, 7))
	checkTake(t, s, 15, out("a", 0, 5), out("b", 0, 6))
	checkGet(t, s, "a", 0, api.Agg{}, false)
	checkPut(t, s, "a", 3, 100, api.OK)
	checkSet(t, s, out("b", 0, 9), api.OK)
	checkOpen(t, s, out("a", 0, 100), out("b", 0, 9), out("a", 10, 7))
	checkTake(t, s, 15, out("a", 0, 100), out("b", 0, 9))
	checkTake(t, s, 25, out("a", 10, 7))
	checkOpen(t, s)
}

// P9.4: a twin has the same; what is done to one of them is not done to the other.
func TestTwin(t *testing.T) {
	row := []api.Out{out("a", 0, 1), out("a", 10, 2), out("b", 10, 3)}
	s := storeOf(t, row...)
	twin := s.Twin()
	third := twin.Twin()
	if twin == s || third == twin {
		t.Fatal("a twin is what it was made of")
	}
	checkOpen(t, twin, row...)

	checkPut(t, twin, "a", 5, 50, api.OK)
	checkPut(t, twin, "c", 5, 60, api.OK)
	checkTake(t, s, 15, row[0])
	checkPut(t, s, "b", 15, 70, api.OK)
	checkSet(t, s, out("d", 20, 80), api.OK)
	checkTake(t, third, 25, row...)

	checkOpen(t, s, out("a", 10, 2), out("b", 10, 3, 70), out("d", 20, 80))
	checkOpen(t, twin, out("a", 0, 1, 50), out("c", 0, 60), out("a", 10, 2), out("b", 10, 3))
	checkOpen(t, third)
}

// P9.4: twins of an empty and of a full store go their own ways too.
func TestTwinOfNoneAndOfMany(t *testing.T) {
	s := store.New()
	twin := s.Twin()
	checkPut(t, s, "a", 1, 1, api.OK)
	checkOpen(t, twin)
	checkPut(t, twin, "b", 1, 2, api.OK)
	checkOpen(t, s, out("a", 0, 1))
	checkOpen(t, twin, out("b", 0, 2))

	full := storeOf(t, fullRow()...)
	twin = full.Twin()
	checkPut(t, twin, "new", 1, 1, api.ErrFull)
	checkTake(t, twin, 15, fullRow()[:2]...)
	checkPut(t, twin, "new", 1, 1, api.OK)
	checkPut(t, full, "new", 1, 1, api.ErrFull)
	checkOpen(t, full, fullRow()...)
}

// P9.4, P9.5: a nil store has no windows, gets none, and its twin is nil.
func TestNilStore(t *testing.T) {
	var s *store.Store
	for range 2 {
		checkOpen(t, s)
		checkPut(t, s, "a", 1, 1, api.ErrNil)
		checkPut(t, s, "", 1, 1, api.ErrNil)
		checkPut(t, s, "a", -1, 1, api.ErrNil)
		checkSet(t, s, out("a", 0, 1), api.ErrNil)
		checkSet(t, s, api.Out{}, api.ErrNil)
		checkSet(t, s, out("a", 3, 1), api.ErrNil)
		checkGet(t, s, "a", 0, api.Agg{}, false)
		checkGet(t, s, "", -1, api.Agg{}, false)
		checkTake(t, s, 15)
		checkTake(t, s, last)
		checkTake(t, s, -1)
		if twin := s.Twin(); twin != nil {
			t.Error("nil has a twin")
		}
	}
}
