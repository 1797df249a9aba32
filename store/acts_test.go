package store_test

import (
	"math/big"
	"slices"
	"strings"
	"testing"
	"unsafe"

	"meter/agg"
	"meter/api"
	"meter/store"
)

// noise is a row of numbers that look like chance and are the same each time.
type noise uint64

func (n *noise) next() uint64 {
	*n += 0x9e3779b97f4a7c15
	z := uint64(*n)
	z = (z ^ z>>30) * 0xbf58476d1ce4e5b9
	z = (z ^ z>>27) * 0x94d049bb133111eb
	return z ^ z>>31
}

func (n *noise) below(end int64) int64 { return int64(n.next() % uint64(end)) }

// value is small, near an edge of the buckets or of any size.
func (n *noise) value() int64 {
	if n.below(8) == 0 {
		return int64(n.next()) >> n.below(64)
	}
	return n.below(150) - 20
}

// turn brings windows into another row.
func (n *noise) turn(l []api.Out) {
	for i := range l {
		k := n.below(int64(i) + 1)
		l[i], l[k] = l[k], l[i]
	}
}

// open is a window in the chapter's words: what was set, and the values put since.
type open struct {
	key    string
	start  int64
	set    api.Agg
	values []int64
}

// told is what is to be told of it: of a window that was not set what agg.Of tells.
func (o open) told() api.Out {
	if o.set.Count == 0 {
		return out(o.key, o.start, o.values...)
	}
	a := o.set
	for _, v := range o.values {
		a = agg.Put(a, v)
	}
	return api.Out{Key: o.key, Start: o.start, Agg: a}
}

// words is a store in the chapter's words: a list of windows, in their row.
type words struct {
	row []open
}

// before says whether a window stands ahead of another one.
func before(a, b open) bool {
	if a.start != b.start {
		return a.start < b.start
	}
	for i := range min(len(a.key), len(b.key)) {
		if a.key[i] != b.key[i] {
			return a.key[i] < b.key[i]
		}
	}
	return len(a.key) < len(b.key)
}

func isKey(key string) bool { return key != "" && len(key) <= 16 }

func isMoment(at int64) bool {
	x := big.NewInt(at)
	return x.Sign() >= 0 && x.Cmp(new(big.Int).Exp(big.NewInt(2), big.NewInt(40), nil)) <= 0
}

func (w *words) find(key string, start int64) int {
	return slices.IndexFunc(w.row, func(o open) bool { return o.key == key && o.start == start })
}

// enter puts a window where it belongs.
func (w *words) enter(o open) {
	at := 0
	for at < len(w.row) && before(w.row[at], o) {
		at++
	}
	w.row = slices.Insert(w.row, at, o)
}

func (w *words) put(key string, at, v int64) api.Errno {
	if !isKey(key) || !isMoment(at) {
		return api.ErrArg
	}
	start := at / 10 * 10
	if i := w.find(key, start); i >= 0 {
		w.row[i].values = append(slices.Clone(w.row[i].values), v)
		return api.OK
	}
	if len(w.row) >= room {
		return api.ErrFull
	}
	w.enter(open{key: key, start: start, values: []int64{v}})
	return api.OK
}

func (w *words) set(x api.Out) api.Errno {
	if !isKey(x.Key) || !isMoment(x.Start) || x.Start%10 != 0 || !agg.Right(x.Agg) || x.Agg.Count < 1 {
		return api.ErrArg
	}
	if w.find(x.Key, x.Start) >= 0 {
		return api.ErrThere
	}
	if len(w.row) >= room {
		return api.ErrFull
	}
	w.enter(open{key: x.Key, start: x.Start, set: x.Agg})
	return api.OK
}

func (w *words) take(mark int64) []api.Out {
	var over []api.Out
	var rest []open
	for _, o := range w.row {
		if isMoment(mark) && o.start+10+5 <= mark {
			over = append(over, o.told())
		} else {
			rest = append(rest, o)
		}
	}
	w.row = rest
	return over
}

func (w *words) all() []api.Out {
	var l []api.Out
	for _, o := range w.row {
		l = append(l, o.told())
	}
	return l
}

// pair is a store and what the words say of it, to which the same is done.
type pair struct {
	store *store.Store
	words words
	// answers counts which errors were answered, and taken which windows were taken.
	answers map[api.Errno]int
	taken   int
}

func newPair() *pair { return &pair{store: store.New(), answers: map[api.Errno]int{}} }

func (b *pair) checkPut(t *testing.T, key string, at, v int64) {
	t.Helper()
	want := b.words.put(key, at, v)
	checkPut(t, b.store, key, at, v, want)
	b.answers[want]++
}

func (b *pair) checkSet(t *testing.T, w api.Out) {
	t.Helper()
	want := b.words.set(w)
	checkSet(t, b.store, w, want)
	b.answers[want]++
}

func (b *pair) checkTake(t *testing.T, mark int64) {
	t.Helper()
	want := b.words.take(mark)
	checkTake(t, b.store, mark, want...)
	b.taken += len(want)
}

func (b *pair) checkOpen(t *testing.T) {
	t.Helper()
	checkOpen(t, b.store, b.words.all()...)
	for i := 1; i < len(b.words.row); i++ {
		if l := b.store.All(); l[i].Start < l[i-1].Start || l[i].Start == l[i-1].Start && l[i].Key <= l[i-1].Key {
			t.Fatalf("All does not rise: %s", told(l))
		}
	}
}

// keysOfActs begin one another, have other first bytes, or are no keys.
func keysOfActs() []string {
	return []string{"a", "aa", "a\x00", "b", "\xff", "ab", longest, "", longest + "g"}
}

// someAct does one, now and then with what is wrong. About at lie the moments.
func (b *pair) someAct(t *testing.T, n *noise, at int64) {
	t.Helper()
	keys := keysOfActs()
	key := keys[n.below(int64(len(keys)-2))]
	if n.below(30) == 0 {
		key = keys[n.below(int64(len(keys)))]
	}
	at += n.below(70)
	if n.below(30) == 0 {
		at = []int64{-1, -10, last + 1, top, bottom, last, 0}[n.below(7)]
	}
	switch n.below(12) {
	case 0:
		b.checkTake(t, at-30)
	case 1, 2:
		values := make([]int64, n.below(4))
		for i := range values {
			values[i] = n.value()
		}
		w := out(key, at-at%10, values...)
		if row := b.words.row; len(row) > 0 && n.below(3) == 0 {
			there := row[n.below(int64(len(row)))]
			w.Key, w.Start = there.key, there.start
		}
		if n.below(8) == 0 {
			w.Start = at
		}
		if n.below(8) == 0 {
			w.Agg.Hist[n.below(4)] += n.below(3) - 1
		}
		b.checkSet(t, w)
	default:
		b.checkPut(t, key, at, n.value())
	}
}

// P9.6, P9.2 to P9.4: any acts, beside what the words say.
func TestAnyActs(t *testing.T) {
	for _, from := range []int64{0, 12345, 1<<39 - 100, last - 1500} {
		n := noise(from + 3)
		answers, taken := map[api.Errno]int{}, 0
		for range 20 {
			b := newPair()
			for i := range int64(150) {
				b.someAct(t, &n, min(from+i*10, last-40))
				b.checkOpen(t)
			}
			for e, count := range b.answers {
				answers[e] += count
			}
			taken += b.taken
		}
		if answers[api.OK] < 500 || answers[api.ErrArg] < 50 || answers[api.ErrThere] < 20 || answers[api.ErrFull] < 20 || taken < 100 {
			t.Errorf("from %d: %v were answered and %d windows taken: too few to show anything", from, answers, taken)
		}
	}
}

// P9.6: all rows of a few acts, beside what the words say.
func TestAllRowsOfFewActs(t *testing.T) {
	const kinds, most = 8, 5
	for row := range kinds * kinds * kinds * kinds * kinds {
		b := newPair()
		for i := range int64(most) {
			switch row % kinds {
			case 0:
				b.checkPut(t, "a", 3, i)
			case 1:
				b.checkPut(t, "a", 12, 20*i)
			case 2:
				b.checkPut(t, "b", 9, -i)
			case 3:
				b.checkSet(t, out("a", 0, 100*i))
			case 4:
				b.checkSet(t, out("b", 10, i))
			case 5:
				b.checkTake(t, 14)
			case 6:
				b.checkTake(t, 15)
			default:
				b.checkTake(t, 25)
			}
			row /= kinds
		}
		b.checkOpen(t)
	}
}

// P9.6: values of many windows, put in any row: each window has what agg.Of tells of its
// values since it was taken last.
func TestManyValues(t *testing.T) {
	n := noise(4)
	for range 30 {
		s := store.New()
		values := map[int64]map[string][]int64{}
		for range 400 {
			key, at, v := keysOfActs()[n.below(5)], n.below(60), n.value()
			if n.below(80) == 0 {
				mark := n.below(80)
				for _, w := range s.Take(mark) {
					if w.Agg != agg.Of(values[w.Start][w.Key]) || w.Start+15 > mark {
						t.Fatalf("Take(%d) tells %s, the values are %d", mark, told([]api.Out{w}), values[w.Start][w.Key])
					}
					delete(values[w.Start], w.Key)
				}
			}
			checkPut(t, s, key, at, v, api.OK)
			start := at / 10 * 10
			if values[start] == nil {
				values[start] = map[string][]int64{}
			}
			values[start][key] = append(values[start][key], v)
		}
		count := 0
		for start, keys := range values {
			for key, l := range keys {
				checkGet(t, s, key, start, agg.Of(l), true)
				count++
			}
		}
		if s.Len() != count || len(s.All()) != count {
			t.Fatalf("Len is %d, All has %d, want %d", s.Len(), len(s.All()), count)
		}
	}
}

// P9.4, P9.6: a twin at any place of a row of acts stays what the store was there, and
// comes to the same by the same acts.
func TestTwinsGoOn(t *testing.T) {
	n := noise(5)
	for range 20 {
		b := newPair()
		for i := range int64(40) {
			b.someAct(t, &n, i*10)
		}
		had := b.words.all()
		other := &pair{store: b.store.Twin(), words: words{row: slices.Clone(b.words.row)}, answers: map[api.Errno]int{}}
		still := b.store.Twin()
		same := n
		for i := range int64(40) {
			b.someAct(t, &n, 400+i*10)
		}
		other.checkOpen(t)
		for i := range int64(40) {
			other.someAct(t, &same, 400+i*10)
		}
		other.checkOpen(t)
		checkOpen(t, b.store, other.words.all()...)
		checkOpen(t, still, had...)
	}
}

// P9.6: what All and Take tell is the caller's: writing to it, in its spare room too,
// changes neither the store nor another answer.
func TestAnswersAreTheCallers(t *testing.T) {
	row := fullRow()
	s := storeOf(t, row...)
	first, second := s.All(), s.All()
	spoil(first)
	if !slices.Equal(second, row) {
		t.Error("two answers of All share what they tell")
	}
	checkOpen(t, s, row...)

	taken := s.Take(25)
	spoil(taken)
	checkOpen(t, s, row[4:]...)
	checkGet(t, s, "spoilt", 0, api.Agg{}, false)
	again := s.Take(35)
	spoil(taken)
	if !slices.Equal(again, row[4:6]) {
		t.Error("two answers of Take share what they tell")
	}
	checkOpen(t, s, row[6:]...)
}

// spoil writes over a list, and over its spare room.
func spoil(l []api.Out) {
	l = l[:cap(l)]
	for i := range l {
		l[i] = api.Out{Key: "spoilt", Start: -1}
	}
}

// R4 with P9.2 and P9.3: the key that is kept is no piece of what was handed in, behind
// the first value and behind others.
func TestKeysAreNotKept(t *testing.T) {
	long := strings.Repeat("key", 1000)
	s := store.New()
	check := func() {
		t.Helper()
		for _, w := range slices.Concat(s.All(), s.Twin().Take(last)) {
			begin, at := uintptr(unsafe.Pointer(unsafe.StringData(long))), uintptr(unsafe.Pointer(unsafe.StringData(w.Key)))
			if at >= begin && at < begin+uintptr(len(long)) {
				t.Fatalf("%q is a piece of what was handed in", w.Key)
			}
		}
	}
	checkPut(t, s, long[:3], 5, 1, api.OK)
	check()
	checkPut(t, s, long[3:6], 6, 2, api.OK)
	check()
	checkSet(t, s, out(long[1:9], 10, 3), api.OK)
	check()
	checkOpen(t, s, out("key", 0, 1, 2), out("eykeykey", 10, 3))
}

// R3: what is told hangs on no row in which a map is gone through, and asking changes
// nothing.
func TestAskingChangesNothing(t *testing.T) {
	n := noise(6)
	row := rowOfWindows()
	n.turn(row)
	s := storeOf(t, row...)
	for range 50 {
		s.Get("a", 10)
		s.Get("nobody", 10)
		s.Len()
		s.Twin()
		s.Take(14)
		checkOpen(t, s, rowOfWindows()...)
		checkTake(t, s.Twin(), 35, rowOfWindows()[:15]...)
	}
}
