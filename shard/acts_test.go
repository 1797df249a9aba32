package shard_test

import (
	"cmp"
	"maps"
	"slices"
	"strings"
	"testing"

	"meter/api"
	"meter/seen"
	"meter/shard"
)

// noise is a row of numbers that look like chance and are the same each time.
type noise uint64

func (n *noise) below(end int) int {
	*n += 0x9e3779b97f4a7c15
	z := uint64(*n)
	z = (z ^ z>>30) * 0xbf58476d1ce4e5b9
	z = (z ^ z>>27) * 0x94d049bb133111eb
	return int((z ^ z>>31) % uint64(end))
}

// value is small, near an edge of the buckets, or so great that sums are held.
func (n *noise) value() int64 {
	if n.below(8) == 0 {
		return []int64{top, bottom, top - 5, bottom + 5}[n.below(4)]
	}
	return int64(n.below(150) - 20)
}

// someItem is one, now and then with what is wrong: about seq lie the Seqs, about at the
// moments.
func (n *noise) someItem(seq int, at int64) api.Item {
	low := max(1, seq-n.below(12))
	x := api.Item{Src: n.below(4), Seq: low + n.below(16), Low: low, Part: n.below(8)}
	if n.below(16) == 0 {
		x.Kind, x.At = api.Mark, max(0, at+int64(n.below(30))-10)
	} else {
		keys := []string{"a", "aa", "a\x00", "b", "\xff", "c", "d", longest}
		x.Kind, x.Key, x.At, x.N = api.Add, keys[n.below(len(keys))], max(0, at+int64(n.below(170))-40), n.value()
	}
	switch n.below(60) {
	case 0:
		x.Src = []int{-1, 4, 9, bottom, top}[n.below(5)]
	case 1:
		x.Low = []int{0, -1, x.Seq + 1, most + 1, bottom, top}[n.below(6)]
	case 2:
		x.Seq = []int{0, -1, x.Low - 1, x.Low + 16, most + 1, bottom, top}[n.below(7)]
	case 3:
		x.Kind = kindsOfNone()[n.below(len(kindsOfNone()))]
	case 4:
		x.Key = wrongKeys()[n.below(len(wrongKeys()))]
	case 5:
		x.At = wrongMoments()[n.below(len(wrongMoments()))]
	}
	return x
}

// window is what tells one window from another.
type window struct {
	start int64
	key   string
}

func byRow(a, b window) int {
	return cmp.Or(cmp.Compare(a.start, b.start), strings.Compare(a.key, b.key))
}

// words is a state in the chapters' words: its mark, each open window's values, the low
// marks, and the codes.
type words struct {
	mark    int64
	open    map[window][]int64
	lows    lows4
	answers []seen.Entry
}

func newWords() words { return words{open: map[window][]int64{}, lows: first} }

func (w *words) clone() words {
	return words{w.mark, maps.Clone(w.open), w.lows, slices.Clone(w.answers)}
}

func isMoment(at int64) bool { return at >= 0 && at <= 1099511627776 }

// over says whether a window's end, and Grace, are not above the mark.
func (w *words) over(start int64) bool { return start+10+5 <= w.mark }

func (w *words) apply(x api.Item) (code int, outs []api.Out, fresh bool) {
	if x.Src < 0 || x.Src > 3 || x.Low < 1 || x.Low > x.Seq || x.Seq > 1099511627776 || x.Seq-x.Low >= 16 {
		return 4, nil, false
	}
	if x.Seq < w.lows[x.Src] {
		return 0, nil, false
	}
	for _, a := range w.answers {
		if a.Src == x.Src && a.Seq == x.Seq {
			return a.Code, nil, false
		}
	}
	switch {
	case x.Kind == 1:
		code = w.put(x.Key, x.At, x.N)
	case x.Kind == 2 && isMoment(x.At):
		code, outs = 1, w.rise(x.At)
	default:
		code = 4
	}
	w.note(x, code)
	return code, outs, true
}

func (w *words) put(key string, at, v int64) int {
	x := window{at - at%10, key}
	switch values, there := w.open[x]; {
	case len(key) == 0 || len(key) > 16 || !isMoment(at):
		return 4
	case w.over(x.start):
		return 2
	case !there && len(w.open) == 32:
		return 3
	default:
		w.open[x] = append(slices.Clone(values), v)
		return 1
	}
}

func (w *words) rise(at int64) []api.Out {
	w.mark = max(w.mark, at)
	var l []api.Out
	for _, o := range w.all() {
		if w.over(o.Start) {
			delete(w.open, window{o.Start, o.Key})
			l = append(l, o)
		}
	}
	return l
}

func (w *words) note(x api.Item, code int) {
	w.lows[x.Src] = max(w.lows[x.Src], x.Low)
	w.answers = append(w.answers, seen.Entry{Src: x.Src, Seq: x.Seq, Code: code})
	w.answers = slices.DeleteFunc(w.answers, func(a seen.Entry) bool { return a.Seq < w.lows[a.Src] })
	slices.SortFunc(w.answers, func(a, b seen.Entry) int {
		return cmp.Or(cmp.Compare(a.Src, b.Src), cmp.Compare(a.Seq, b.Seq))
	})
}

func (w *words) all() []api.Out {
	var l []api.Out
	for _, x := range slices.SortedFunc(maps.Keys(w.open), byRow) {
		l = append(l, out(x.key, x.start, w.open[x]...))
	}
	return l
}

func (w *words) has() has { return has{w.mark, w.all(), w.lows, w.answers} }

// pair is a state, and what the words say of it.
type pair struct {
	state *shard.State
	words words
	// fresh and idle count the codes of what was fresh, and of what was not.
	fresh, idle [5]int
	told        int
}

func newPair() *pair { return &pair{state: shard.New(), words: newWords()} }

// check applies an item, and tells whether it was fresh.
func (b *pair) check(t *testing.T, x api.Item) bool {
	t.Helper()
	code, outs, fresh := b.words.apply(x)
	if fresh {
		checkApply(t, b.state, x, code, outs...)
		b.fresh[code]++
		b.told += len(outs)
	} else {
		checkIdle(t, b.state, x, code)
		b.idle[code]++
	}
	return fresh
}

// P13.2, P13.4: any items, beside what the words say.
func TestAnyItems(t *testing.T) {
	for _, from := range []int{0, 12345, 1<<39 - 100, most - 1200} {
		n := noise(from + 3)
		var fresh, idle [5]int
		told := 0
		for range 20 {
			b := newPair()
			for i := range 300 {
				b.check(t, n.someItem(min(from+i/4, most+3), min(int64(from+i*7), last-70)))
				checkState(t, b.state, b.words.has())
			}
			for code := range fresh {
				fresh[code] += b.fresh[code]
				idle[code] += b.idle[code]
			}
			told += b.told
		}
		if slices.Min(fresh[1:]) < 20 || slices.Min(idle[:]) < 10 || told < 100 {
			t.Errorf("from %d: the codes were %d and %d, and %d windows were told: too few to show anything", from, fresh, idle, told)
		}
	}
}

// P13.2, P13.4: all rows of a few items, beside what the words say.
func TestAllRowsOfFewItems(t *testing.T) {
	items := []api.Item{
		add(0, 1, 1, "a", 3, 5), add(0, 2, 1, "b", 9, -6), add(1, 1, 1, "a", 10, 20), add(0, 3, 2, "", 12, 7),
		mark(0, 4, 4, 15), mark(1, 2, 2, 14), mark(1, 3, 1, 25), {Src: 2, Seq: 1, Low: 1, Kind: 3},
	}
	kinds := len(items)
	for row := range kinds * kinds * kinds * kinds * kinds {
		b := newPair()
		for range 5 {
			b.check(t, items[row%kinds])
			row /= kinds
		}
		checkState(t, b.state, b.words.has())
	}
}

// shuffled is a row of items of which each comes twice and oftener, close to its place or
// far behind it.
func (n *noise) shuffled(count, from int) []api.Item {
	var row []api.Item
	for i := range count {
		x := n.someItem(from+i/3, int64(i*6))
		for range 2 + n.below(3) {
			row = append(row, x)
		}
	}
	for i := range row {
		far := max(0, i-[]int{3, 30, 200}[n.below(3)])
		k := far + n.below(i-far+1)
		row[i], row[k] = row[k], row[i]
	}
	return row
}

// P13.4: what is told of items that come twice and oftener, in any row, and what is there
// behind each, is what the fresh ones alone come to; none is fresh twice.
func TestOnce(t *testing.T) {
	n := noise(11)
	times, told := 0, 0
	for k := range 30 {
		from := []int{1, 100, most - 40}[k%3]
		s, once := shard.New(), shard.New()
		came := map[[2]int]int{}
		for _, x := range n.shuffled(100, from) {
			code, outs, fresh := s.Apply(x)
			if !fresh {
				if len(outs) != 0 {
					t.Fatalf("%+v tells %d windows, and is not fresh", x, len(outs))
				}
				checkSame(t, s, once, true)
				continue
			}
			came[[2]int{x.Src, x.Seq}]++
			if came[[2]int{x.Src, x.Seq}] > 1 {
				t.Fatalf("%+v is fresh twice", x)
			}
			checkApply(t, once, x, code, outs...)
			checkSame(t, s, once, true)
			told += len(outs)
		}
		times += len(came)
	}
	if times < 1000 || told < 200 {
		t.Errorf("%d items were fresh, %d windows told: too few to show anything", times, told)
	}
}

// P13.4: each value that was Taken is once in one window that was told or is open, however
// often it came.
func TestValuesCountOnce(t *testing.T) {
	n := noise(12)
	count := 0
	for range 20 {
		s := shard.New()
		values := map[window]int64{}
		var whole []api.Out
		for _, x := range n.shuffled(100, 1) {
			code, outs, fresh := s.Apply(x)
			whole = append(whole, outs...)
			if fresh && code == api.Taken && x.Kind == api.Add {
				values[window{x.At - x.At%10, x.Key}]++
			}
		}
		whole = append(whole, s.Open()...)
		for _, w := range whole {
			if w.Agg.Count != values[window{w.Start, w.Key}] {
				t.Fatalf("%s has not %d values", told([]api.Out{w}), values[window{w.Start, w.Key}])
			}
		}
		if len(whole) != len(values) {
			t.Fatalf("%d windows were told or are open, %d have values", len(whole), len(values))
		}
		count += len(whole)
	}
	if count < 400 {
		t.Errorf("%d windows were told or are open: too few to show anything", count)
	}
}

// idleItem is one that is not fresh to a state, of what it tells.
func (n *noise) idleItem(s *shard.State) (api.Item, int) {
	x := n.someItem(1, s.Mark())
	x.Kind, x.At = api.Mark, last
	answers := s.Answers()
	if len(answers) > 0 && n.below(3) > 0 {
		a := answers[n.below(len(answers))]
		x.Src, x.Seq = a.Src, a.Seq
		x.Low = max(1, a.Seq-n.below(ahead))
		return x, a.Code
	}
	x.Src = n.below(4)
	if low := s.Lows()[x.Src]; low > 1 && n.below(2) > 0 {
		x.Seq, x.Low = low-1, max(1, low-1-n.below(ahead))
		return x, 0
	}
	bad := wrongNumbers()[n.below(len(wrongNumbers()))]
	x.Src, x.Seq, x.Low = bad.src, bad.seq, bad.low
	return x, api.Refused
}

// P13.5: a row of items comes to the same, wherever a twin, or a state made of what was
// told, goes on with it, and whatever is put between that is not fresh.
func TestARowComesToTheSame(t *testing.T) {
	n := noise(13)
	idle := [5]int{}
	for range 30 {
		b := newPair()
		on := shard.New()
		for i := range 150 {
			switch n.below(6) {
			case 0:
				left := on
				on = on.Twin()
				// What is left behind has no part in it any more.
				left.Apply(mark(n.below(4), left.Lows()[0]+50, left.Lows()[0]+50, last))
			case 1:
				on = stateOf(t, has{on.Mark(), on.Open(), lows4(on.Lows()), on.Answers()})
			case 2:
				// A twin that goes its own way has no part in it either.
				twin := on.Twin()
				for k := range 5 {
					twin.Apply(n.someItem(i/3+k, int64(i*6)))
				}
			default:
				for range n.below(4) {
					x, code := n.idleItem(on)
					checkIdle(t, on, x, code)
					idle[code]++
				}
			}
			x := n.someItem(1+i/3, int64(i*6))
			code, outs, fresh := b.words.apply(x)
			if fresh {
				checkApply(t, b.state, x, code, outs...)
				checkApply(t, on, x, code, outs...)
			} else {
				checkIdle(t, b.state, x, code)
				checkIdle(t, on, x, code)
			}
			checkSame(t, b.state, on, true)
		}
		checkState(t, on, b.words.has())
	}
	if slices.Min(idle[:]) < 20 {
		t.Errorf("items that were not fresh had the codes %d: too few to show anything", idle)
	}
}

// P13.5: twins at each place of one row, which all go on with it to its end.
func TestTwinsAtEachPlace(t *testing.T) {
	n := noise(14)
	for range 10 {
		row := n.shuffled(40, 1)
		type answer struct {
			code  int
			outs  []api.Out
			fresh bool
		}
		s := shard.New()
		var twins []*shard.State
		var answers []answer
		for _, x := range row {
			twins = append(twins, s.Twin())
			code, outs, fresh := s.Apply(x)
			answers = append(answers, answer{code, outs, fresh})
		}
		for i, twin := range twins {
			for k := i; k < len(row); k++ {
				code, outs, fresh := twin.Apply(row[k])
				if a := answers[k]; code != a.code || !slices.Equal(outs, a.outs) || fresh != a.fresh {
					t.Fatalf("from %d on, Apply(%+v) is %d, %s, %t, want %d, %s, %t", i, row[k], code, told(outs), fresh, a.code, told(a.outs), a.fresh)
				}
			}
			checkSame(t, twin, s, true)
		}
	}
}
