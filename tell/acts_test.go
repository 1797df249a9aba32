package tell_test

import (
	"cmp"
	"maps"
	"slices"
	"strings"
	"testing"
	"unsafe"

	"meter/agg"
	"meter/api"
	"meter/tell"
)

// noise is a row of numbers that look like chance and are the same each time.
type noise uint64

func (n *noise) below(end int64) int64 {
	*n += 0x9e3779b97f4a7c15
	z := uint64(*n)
	z = (z ^ z>>30) * 0xbf58476d1ce4e5b9
	z = (z ^ z>>27) * 0x94d049bb133111eb
	return int64((z ^ z>>31) % uint64(end))
}

// value is small, near an edge of the buckets, or so great that sums are held.
func (n *noise) value() int64 {
	if n.below(8) == 0 {
		return []int64{top, bottom, top - 5, bottom + 5}[n.below(4)]
	}
	return n.below(150) - 20
}

// turn brings windows into another row.
func (n *noise) turn(l []api.Out) {
	for i := range l {
		k := n.below(int64(i) + 1)
		l[i], l[k] = l[k], l[i]
	}
}

// window is what tells one window from another.
type window struct {
	start int64
	key   string
}

// byRow is how windows follow one another.
func byRow(a, b window) int {
	return cmp.Or(cmp.Compare(a.start, b.start), strings.Compare(a.key, b.key))
}

// words is a line in the chapter's words: its mark, and each open window's values.
type words struct {
	mark int64
	open map[window][]int64
}

func isMoment(at int64) bool { return at >= 0 && at <= 1099511627776 }

// over says whether a window's end, and Grace, are not above a mark.
func over(start, mark int64) bool { return start+10+5 <= mark }

func (w *words) put(key string, at, v int64) int {
	x := window{at - at%10, key}
	switch values, there := w.open[x]; {
	case len(key) == 0 || len(key) > 16 || !isMoment(at):
		return 4
	case over(x.start, w.mark):
		return 2
	case !there && len(w.open) == 32:
		return 3
	default:
		w.open[x] = append(slices.Clone(values), v)
		return 1
	}
}

func (w *words) rise(at int64) (int, []api.Out) {
	if !isMoment(at) {
		return 4, nil
	}
	w.mark = max(w.mark, at)
	var l []api.Out
	for _, x := range w.row() {
		if over(x.start, w.mark) {
			l = append(l, out(x.key, x.start, w.open[x]...))
			delete(w.open, x)
		}
	}
	return 1, l
}

func (w *words) row() []window { return slices.SortedFunc(maps.Keys(w.open), byRow) }

func (w *words) all() []api.Out {
	var l []api.Out
	for _, x := range w.row() {
		l = append(l, out(x.key, x.start, w.open[x]...))
	}
	return l
}

// pair is a line, what the words say of it, and what P10.5 speaks of: the values that were
// Taken, and the windows that were told.
type pair struct {
	line   *tell.Line
	words  words
	values map[window][]int64
	told   []api.Out
	// codes counts which codes were told.
	codes [5]int
}

func newPair() *pair {
	return &pair{line: tell.New(), words: words{open: map[window][]int64{}}, values: map[window][]int64{}}
}

// twin is a pair of a line that has the same.
func (b *pair) twin(line *tell.Line) *pair {
	return &pair{
		line: line, words: words{b.words.mark, maps.Clone(b.words.open)},
		values: maps.Clone(b.values), told: slices.Clone(b.told), codes: b.codes,
	}
}

func (b *pair) checkPut(t *testing.T, key string, at, v int64) {
	t.Helper()
	want := b.words.put(key, at, v)
	checkPut(t, b.line, key, at, v, want)
	b.codes[want]++
	if want == api.Taken {
		x := window{at - at%10, key}
		b.values[x] = append(slices.Clone(b.values[x]), v)
	}
}

func (b *pair) checkMark(t *testing.T, at int64) {
	t.Helper()
	code, want := b.words.rise(at)
	checkMark(t, b.line, at, code, want...)
	b.codes[code]++
	b.told = append(b.told, want...)
}

func (b *pair) checkLine(t *testing.T) {
	t.Helper()
	checkLine(t, b.line, b.words.mark, b.words.all()...)
}

// checkWhole holds what was told and what is open against the values alone: what was told
// rises, no window is there twice, and each value that was Taken is in just one.
func (b *pair) checkWhole(t *testing.T) {
	t.Helper()
	for i := 1; i < len(b.told); i++ {
		x, y := b.told[i-1], b.told[i]
		if byRow(window{x.Start, x.Key}, window{y.Start, y.Key}) >= 0 {
			t.Fatalf("%s was told behind %s", told(b.told[i:i+1]), told(b.told[i-1:i]))
		}
	}
	whole := slices.Concat(b.told, b.line.Open())
	for _, w := range whole {
		if values := b.values[window{w.Start, w.Key}]; len(values) == 0 || w.Agg != agg.Of(values) {
			t.Fatalf("%s was told or is open, its values are %d", told([]api.Out{w}), values)
		}
	}
	// As each of them has a window's values, none is twice if there are as many.
	if len(whole) != len(b.values) {
		t.Fatalf("%d windows were told or are open, %d have values: %s", len(whole), len(b.values), told(whole))
	}
}

// keysOfActs begin one another, have other first bytes, or are no keys.
func keysOfActs() []string {
	return []string{"a", "aa", "a\x00", "b", "\xff", "ab", longest, "", longest + "g"}
}

// someAct does one, now and then with what is wrong. About at lie the moments.
func (b *pair) someAct(t *testing.T, n *noise, at int64) {
	t.Helper()
	keys := keysOfActs()
	key := keys[n.below(int64(len(keys)-2))]
	if n.below(30) == 0 {
		key = keys[n.below(int64(len(keys)))]
	}
	mark := n.below(8) == 0
	if mark {
		at += n.below(30) - 10
	} else {
		at = max(0, at+n.below(90)-20)
	}
	if n.below(30) == 0 {
		at = wrongMoments()[n.below(int64(len(wrongMoments())))]
	}
	if mark {
		b.checkMark(t, at)
	} else {
		b.checkPut(t, key, at, n.value())
	}
}

// P10.5, P10.2, P10.3: any values and marks, beside what the words say.
func TestAnyActs(t *testing.T) {
	for _, from := range []int64{0, 12345, 1<<39 - 100, last - 1500} {
		n := noise(from + 3)
		var codes [5]int
		count := 0
		for range 20 {
			b := newPair()
			for i := range int64(200) {
				b.someAct(t, &n, min(from+i*7, last-70))
				b.checkLine(t)
			}
			b.checkWhole(t)
			b.checkMark(t, last)
			b.checkWhole(t)
			for code, by := range b.codes {
				codes[code] += by
			}
			count += len(b.told)
		}
		if codes[api.Taken] < 500 || codes[api.Late] < 20 || codes[api.NoRoom] < 20 || codes[api.Refused] < 50 || count < 100 {
			t.Errorf("from %d: the codes were %d, and %d windows were told: too few to show anything", from, codes, count)
		}
	}
}

// P10.5: all rows of a few acts, beside what the words say.
func TestAllRowsOfFewActs(t *testing.T) {
	const kinds, most = 8, 5
	for row := range kinds * kinds * kinds * kinds * kinds {
		b := newPair()
		for i := range int64(most) {
			switch row % kinds {
			case 0:
				b.checkPut(t, "a", 3, i)
			case 1:
				b.checkPut(t, "b", 9, -i)
			case 2:
				b.checkPut(t, "a", 10, 20*i)
			case 3:
				b.checkPut(t, "", 12, i)
			case 4:
				b.checkMark(t, 14)
			case 5:
				b.checkMark(t, 15)
			case 6:
				b.checkMark(t, 25)
			default:
				b.checkMark(t, -1)
			}
			row /= kinds
		}
		b.checkLine(t)
		b.checkWhole(t)
	}
}

// P10.5: windows that open behind others, ahead of them by their Starts, are told ahead of
// them all the same, and never below what was told.
func TestWhatIsToldRises(t *testing.T) {
	b := newPair()
	for i := range int64(300) {
		for _, key := range []string{"b", "a", "aa"} {
			for _, by := range []int64{20, 0, 10, -20, -30} {
				b.checkPut(t, key, max(0, 10*i+by), i)
			}
		}
		b.checkMark(t, 10*i+4)
	}
	b.checkMark(t, last)
	b.checkWhole(t)
	if len(b.told) < 800 || b.codes[api.Late] < 800 || len(b.line.Open()) != 0 {
		t.Errorf("%d windows were told, the codes were %d: too few to show anything", len(b.told), b.codes)
	}
}

// P10.4, P10.1: a twin at any place of a row of acts, and Of of what the line tells there,
// stay what the line was, and come to the same by the same acts.
func TestTwinsGoOn(t *testing.T) {
	n := noise(5)
	for range 20 {
		b := newPair()
		for i := range int64(60) {
			b.someAct(t, &n, i*7)
		}
		open := b.line.Open()
		n.turn(open)
		others := []*pair{b.twin(b.line.Twin()), b.twin(lineOf(t, b.line.At(), open...))}
		still := b.twin(b.line.Twin())
		same := n
		for i := range int64(60) {
			b.someAct(t, &n, 420+i*7)
		}
		for _, other := range others {
			other.checkLine(t)
			again := same
			for i := range int64(60) {
				other.someAct(t, &again, 420+i*7)
			}
			other.checkLine(t)
			other.checkWhole(t)
			checkLine(t, b.line, other.line.At(), other.line.Open()...)
		}
		still.checkLine(t)
		still.checkWhole(t)
	}
}

// R3: what is told hangs on no row in which a map is gone through, and asking changes
// nothing.
func TestAskingChangesNothing(t *testing.T) {
	n := noise(6)
	row := mixedRow()
	n.turn(row)
	l := lineOf(t, 14, row...)
	for range 50 {
		checkLine(t, l, 14, mixedRow()...)
		checkMark(t, l.Twin(), 35, api.Taken, mixedRow()[:14]...)
	}
}

// R4: what is handed in is not changed, its spare room neither, and not kept.
func TestWhatIsHandedInStays(t *testing.T) {
	row := mixedRow()
	slices.Reverse(row)
	spare := append(slices.Clone(row), out("spare", 30, 1))
	l := lineOf(t, 14, spare[:len(row)]...)
	checkNone(t, 15, api.ErrOld, spare[:len(row)]...)
	checkNone(t, 0, api.ErrThere, append(spare[:len(row):len(row)], row[0])...)
	if !slices.Equal(spare, append(slices.Clone(row), out("spare", 30, 1))) {
		t.Errorf("what was handed in is now %s", told(spare))
	}
	spoil(spare)
	checkLine(t, l, 14, mixedRow()...)
	checkMark(t, l, last, api.Taken, mixedRow()[:18]...)
}

// R4: what Open and Mark tell is the caller's: writing to it, in its spare room too,
// changes neither the line nor another answer.
func TestAnswersAreTheCallers(t *testing.T) {
	row := fullRow(0)
	l := lineOf(t, 14, row...)
	first, second := l.Open(), l.Open()
	spoil(first)
	if !slices.Equal(second, row) {
		t.Error("two answers of Open share what they tell")
	}
	checkLine(t, l, 14, row...)
	twin := l.Twin()
	_, over := l.Mark(25)
	spoil(over)
	checkLine(t, l, 25, row[4:]...)
	checkMark(t, twin, 25, api.Taken, row[:4]...)
	_, again := l.Mark(35)
	spoil(over)
	if !slices.Equal(again, row[4:6]) {
		t.Error("two answers of Mark share what they tell")
	}
	checkLine(t, l, 35, row[6:]...)
}

// spoil writes over a list, and over its spare room.
func spoil(l []api.Out) {
	l = l[:cap(l)]
	for i := range l {
		l[i] = api.Out{Key: "spoilt", Start: -1}
	}
}

// R4: a key that is kept is no piece of what was handed in.
func TestKeysAreNotKept(t *testing.T) {
	long := strings.Repeat("key", 1000)
	l := lineOf(t, 0, out(long[1:9], 10, 3))
	checkPut(t, l, long[:3], 5, 1, api.Taken)
	checkPut(t, l, long[3:6], 6, 2, api.Taken)
	want := []api.Out{out("key", 0, 1, 2), out("eykeykey", 10, 3)}
	checkLine(t, l, 0, want...)
	open := l.Open()
	_, over := l.Twin().Mark(last)
	for _, w := range append(open, over...) {
		begin, at := uintptr(unsafe.Pointer(unsafe.StringData(long))), uintptr(unsafe.Pointer(unsafe.StringData(w.Key)))
		if at >= begin && at < begin+uintptr(len(long)) {
			t.Fatalf("%q is a piece of what was handed in", w.Key)
		}
	}
	checkMark(t, l, last, api.Taken, want...)
}

// R3: lines know nothing of one another.
func TestLinesAreApart(t *testing.T) {
	l, other := tell.New(), tell.New()
	made := lineOf(t, 14, out("a", 0, 9))
	checkPut(t, l, "a", 3, 5, api.Taken)
	checkMark(t, l, 14, api.Taken)
	checkPut(t, other, "b", 3, 7, api.Taken)
	checkMark(t, other, 20, api.Taken, out("b", 0, 7))
	checkLine(t, l, 14, out("a", 0, 5))
	checkLine(t, other, 20)
	checkLine(t, made, 14, out("a", 0, 9))
}
