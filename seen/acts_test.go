package seen_test

import (
	"cmp"
	"slices"
	"testing"

	"meter/api"
	"meter/seen"
)

// noise is a row of numbers that look like chance and are the same each time.
type noise uint64

func (n *noise) below(end int) int {
	*n += 0x9e3779b97f4a7c15
	z := uint64(*n)
	z = (z ^ z>>30) * 0xbf58476d1ce4e5b9
	z = (z ^ z>>27) * 0x94d049bb133111eb
	return int((z ^ z>>31) % uint64(end))
}

// turn brings entries into another row.
func (n *noise) turn(l []seen.Entry) {
	for i := range l {
		k := n.below(i + 1)
		l[i], l[k] = l[k], l[i]
	}
}

// byRow is how entries follow one another.
func byRow(a, b seen.Entry) int {
	return cmp.Or(cmp.Compare(a.Src, b.Src), cmp.Compare(a.Seq, b.Seq))
}

// words is a table in the chapter's words, as a plain list: the low marks that it was made
// of, and all that was ever noted in it, with the Lows that came with it.
type words struct {
	lows  lows4
	noted []noted
}

type noted struct {
	entry seen.Entry
	low   int
}

func (w *words) low(src int) int {
	low := w.lows[src]
	for _, x := range w.noted {
		if x.entry.Src == src {
			low = max(low, x.low)
		}
	}
	return low
}

func (w *words) ask(src, seq, low int) (int, int) {
	if src < 0 || src > 3 || low < 1 || low > seq || seq > 1099511627776 || seq-low >= 16 {
		return 0, 0
	}
	if seq < w.low(src) {
		return 1, 0
	}
	for _, x := range w.noted {
		if x.entry.Src == src && x.entry.Seq == seq {
			return 2, x.entry.Code
		}
	}
	return 3, 0
}

func (w *words) note(src, seq, low, code int) api.Errno {
	switch state, _ := w.ask(src, seq, low); {
	case state == 0 || code < 1 || code > 4:
		return api.ErrArg
	case state == 1:
		return api.ErrOld
	case state == 2:
		return api.ErrThere
	}
	w.noted = append(w.noted, noted{seen.Entry{Src: src, Seq: seq, Code: code}, low})
	return api.OK
}

func (w *words) marks() lows4 { return lows4{w.low(0), w.low(1), w.low(2), w.low(3)} }

func (w *words) all() []seen.Entry {
	var l []seen.Entry
	for _, x := range w.noted {
		if x.entry.Seq >= w.low(x.entry.Src) {
			l = append(l, x.entry)
		}
	}
	slices.SortFunc(l, byRow)
	return l
}

// pair is a table and what the words say of it.
type pair struct {
	table *seen.Seen
	words words
	// states counts how what was asked for stood, errors what Note answered.
	states [4]int
	errors map[api.Errno]int
}

func newPair() *pair {
	return &pair{table: seen.New(), words: words{lows: first}, errors: map[api.Errno]int{}}
}

// twin is a pair of a table that has the same.
func (b *pair) twin(s *seen.Seen) *pair {
	return &pair{table: s, words: words{b.words.lows, slices.Clone(b.words.noted)}, errors: map[api.Errno]int{}}
}

func (b *pair) checkNote(t *testing.T, src, seq, low, code int) {
	t.Helper()
	state, is := b.words.ask(src, seq, low)
	checkAsk(t, b.table, src, seq, low, state, is)
	want := b.words.note(src, seq, low, code)
	checkNote(t, b.table, src, seq, low, code, want)
	b.states[state]++
	b.errors[want]++
}

func (b *pair) checkTable(t *testing.T) {
	t.Helper()
	checkTable(t, b.table, b.words.marks(), b.words.all()...)
}

// act is an item's numbers and its code.
type act struct{ src, seq, low, code int }

// someAct is one, now and then with what is wrong: about at lie the Seqs.
func (n *noise) someAct(at int) act {
	low := max(1, at-n.below(20))
	a := act{n.below(4), low + n.below(17), low, 1 + n.below(4)}
	switch n.below(40) {
	case 0:
		a.src = []int{-1, 4, 9, bottom, top}[n.below(5)]
	case 1:
		a.code = []int{0, 5, -1, bottom, top}[n.below(5)]
	case 2:
		a.low = []int{0, -1, a.seq + 1, most + 1, bottom, top}[n.below(6)]
	case 3:
		a.seq = []int{0, -1, a.low - 1, a.low + 16, most + 1, bottom, top}[n.below(7)]
	case 4:
		a.low = a.seq
	}
	return a
}

// P11.5, P11.1 to P11.3: any items, beside what the words say.
func TestAnyActs(t *testing.T) {
	for _, from := range []int{1, 12345, 1<<39 - 50, most - 130} {
		n := noise(from + 3)
		var states [4]int
		errors := map[api.Errno]int{}
		for range 20 {
			b := newPair()
			for i := range 300 {
				a := n.someAct(min(from+i/2, most+5))
				b.checkNote(t, a.src, a.seq, a.low, a.code)
				b.checkTable(t)
			}
			for state, by := range b.states {
				states[state] += by
			}
			for e, by := range b.errors {
				errors[e] += by
			}
		}
		if slices.Min(states[:]) < 200 || errors[api.OK] < 500 || errors[api.ErrArg] < 200 || errors[api.ErrOld] < 200 || errors[api.ErrThere] < 200 {
			t.Errorf("from %d: the states were %d, the errors %v: too few to show anything", from, states, errors)
		}
	}
}

// P11.5: all rows of a few items, beside what the words say.
func TestAllRowsOfFewActs(t *testing.T) {
	acts := []act{{0, 1, 1, 1}, {0, 2, 1, 2}, {0, 2, 2, 3}, {0, 3, 3, 4}, {0, 16, 1, 1}, {0, 18, 3, 2}, {1, 2, 2, 3}, {0, 2, 3, 1}}
	kinds := len(acts)
	for row := range kinds * kinds * kinds * kinds * kinds {
		b := newPair()
		for range 5 {
			a := acts[row%kinds]
			b.checkNote(t, a.src, a.seq, a.low, a.code)
			row /= kinds
		}
		b.checkTable(t)
	}
}

// watch holds what a table tells against P11.5 alone.
type watch struct {
	table *seen.Seen
	// codes is which code each item was given when it was Fresh.
	codes map[numbers]int
	lows  []int
}

func newWatch() *watch {
	s := seen.New()
	return &watch{table: s, codes: map[numbers]int{}, lows: s.Lows()}
}

func (w *watch) act(t *testing.T, a act) {
	t.Helper()
	item := numbers{src: a.src, seq: a.seq}
	code, had := w.codes[item]
	switch state, is := w.table.Ask(a.src, a.seq, a.low); state {
	case seen.Fresh:
		if had {
			t.Fatalf("%v is Fresh, and had the code %d", a, code)
		}
		if w.table.Note(a.src, a.seq, a.low, a.code) == api.OK {
			w.codes[item] = a.code
		}
	case seen.Known:
		if is != code {
			t.Fatalf("%v is known as %d, and had the code %d", a, is, code)
		}
		w.table.Note(a.src, a.seq, a.low, a.code)
	default:
		w.table.Note(a.src, a.seq, a.low, a.code)
	}
	w.checkLows(t)
	w.checkCodes(t)
}

// checkLows: low marks never fall.
func (w *watch) checkLows(t *testing.T) {
	t.Helper()
	lows := w.table.Lows()
	for src, low := range lows {
		if low < w.lows[src] {
			t.Fatalf("the low marks %d are now %d", w.lows, lows)
		}
	}
	w.lows = lows
}

// checkCodes: a source has at most MaxAhead codes, all close to its low mark; what had a
// code has it as long as it is not below that.
func (w *watch) checkCodes(t *testing.T) {
	t.Helper()
	var count [sources]int
	kept := map[numbers]int{}
	for _, x := range w.table.All() {
		count[x.Src]++
		kept[numbers{src: x.Src, seq: x.Seq}] = x.Code
		if low := w.lows[x.Src]; x.Seq < low || x.Seq >= low+ahead {
			t.Fatalf("%v is kept at the low mark %d", x, low)
		}
	}
	if slices.Max(count[:]) > ahead {
		t.Fatalf("the sources have %d codes", count)
	}
	for item, code := range w.codes {
		if is, there := kept[item]; item.seq >= w.lows[item.src] && (!there || is != code) {
			t.Fatalf("%v had the code %d, and has %d, %t", item, code, is, there)
		}
	}
}

// P11.5: many items, noted in any row, doubled and turned about.
func TestNoItemIsFreshTwice(t *testing.T) {
	n := noise(7)
	whole := 0
	for k := range 30 {
		w := newWatch()
		var acts []act
		from := []int{1, 100, most - 60}[k%3]
		for i := range 150 {
			a := n.someAct(from + i/3)
			acts = append(acts, a, a)
		}
		for i := range acts {
			far := max(0, i-40)
			j := far + n.below(i-far+1)
			acts[i], acts[j] = acts[j], acts[i]
		}
		for _, a := range acts {
			w.act(t, a)
		}
		whole += len(w.codes)
	}
	if whole < 1000 {
		t.Errorf("%d items were noted: too few to show anything", whole)
	}
}

// P11.5: sources that fill all that they may have, whatever the row.
func TestSourcesHaveAtMostMaxAhead(t *testing.T) {
	n := noise(8)
	for range 20 {
		w := newWatch()
		for low := 1; low < 120; low += 1 + n.below(20) {
			for range 200 {
				seq := low + n.below(ahead)
				w.act(t, act{n.below(4), seq, max(1, seq-n.below(ahead)), 1 + n.below(4)})
			}
		}
	}
	s := tableOf(t, lows4{5, 5, 5, 5})
	for seq := 20; seq >= 5; seq-- {
		for src := range sources {
			checkNote(t, s, src, seq, 5, 2, api.OK)
		}
	}
	if l := s.All(); len(l) != sources*ahead {
		t.Errorf("%d codes are kept", len(l))
	}
}

// P11.5: what is told of a source is what a table tells that was given its items alone.
func TestSourcesDoNotSeeOneAnother(t *testing.T) {
	n := noise(9)
	for range 20 {
		together := seen.New()
		var alone [sources]*seen.Seen
		for src := range alone {
			alone[src] = seen.New()
		}
		for i := range 300 {
			a := n.someAct(1 + i/2)
			if a.src < 0 || a.src >= sources {
				checkNote(t, together, a.src, a.seq, a.low, a.code, api.ErrArg)
				continue
			}
			state, code := alone[a.src].Ask(a.src, a.seq, a.low)
			checkAsk(t, together, a.src, a.seq, a.low, state, code)
			checkNote(t, together, a.src, a.seq, a.low, a.code, alone[a.src].Note(a.src, a.seq, a.low, a.code))
			var lows lows4
			var all []seen.Entry
			for src, s := range alone {
				lows[src] = s.Lows()[src]
				all = append(all, s.All()...)
			}
			checkTable(t, together, lows, all...)
		}
	}
}

// P11.4, P11.5: a twin at any place of a row of items, and Of of what the table tells
// there, stay what the table was, and come to the same by the same items.
func TestTwinsGoOn(t *testing.T) {
	n := noise(5)
	for range 20 {
		b := newPair()
		for i := range 60 {
			a := n.someAct(1 + i)
			b.checkNote(t, a.src, a.seq, a.low, a.code)
		}
		others := []*pair{b.twin(b.table.Twin()), b.twin(tableOf(t, lows4(b.table.Lows()), b.table.All()...))}
		still := b.twin(b.table.Twin())
		same := n
		for i := range 60 {
			a := n.someAct(61 + i)
			b.checkNote(t, a.src, a.seq, a.low, a.code)
		}
		for _, other := range others {
			other.checkTable(t)
			again := same
			for i := range 60 {
				a := again.someAct(61 + i)
				other.checkNote(t, a.src, a.seq, a.low, a.code)
			}
			other.checkTable(t)
			checkTable(t, b.table, lows4(other.table.Lows()), other.table.All()...)
		}
		still.checkTable(t)
	}
}
