package snap_test

import (
	"math"
	"slices"
	"testing"

	"meter/api"
	"meter/seen"
	"meter/shard"
	"meter/snap"
)

// noise is a row of numbers that look like chance and are the same each time.
type noise uint64

func (n *noise) below(end int) int {
	*n += 0x9e3779b97f4a7c15
	z := uint64(*n)
	z = (z ^ z>>30) * 0xbf58476d1ce4e5b9
	z = (z ^ z>>27) * 0x94d049bb133111eb
	return int((z ^ z>>31) % uint64(end))
}

// someItem is one: about seq lie the Seqs, about at the moments.
func (n *noise) someItem(seq int, at int64) api.Item {
	low := max(1, seq-n.below(12))
	x := api.Item{Src: n.below(4), Seq: low + n.below(16), Low: low, Part: n.below(8)}
	if n.below(16) == 0 {
		x.Kind, x.At = api.Mark, max(0, at+int64(n.below(30))-10)
		return x
	}
	keys := []string{"a", "aa", "a\x00", "b", "\xff", "c", "d", longest, ""}
	values := []int64{math.MaxInt64, math.MinInt64, math.MaxInt64 - 5, 0, -1, 9, 10, 63, 64, 99, 100, -300}
	x.Kind, x.Key, x.N = api.Add, keys[n.below(len(keys))], values[n.below(len(values))]
	x.At = max(0, at+int64(n.below(170))-40)
	return x
}

// words is a reading of bytes in the words of the chapters 2 and 14.
type words struct {
	rest  string
	fault api.Errno
}

// num reads a number up to most.
func (w *words) num(most uint64) uint64 {
	var n uint64
	for i := 0; w.fault == api.OK; i++ {
		if i == len(w.rest) {
			w.fault = api.ErrShort
			break
		}
		b := uint64(w.rest[i])
		if i == 9 && b > 1 {
			w.fault = api.ErrForm
			break
		}
		n += b % 128 << (7 * i)
		if b >= 128 {
			continue
		}
		if b == 0 && i > 0 || n > most {
			w.fault = api.ErrForm
			break
		}
		w.rest = w.rest[i+1:]
		return n
	}
	return 0
}

// integer reads an integer: 2n stands for n, 2n + 1 for -n - 1.
func (w *words) integer() int64 {
	n := w.num(math.MaxUint64)
	if n%2 == 0 {
		return int64(n / 2)
	}
	return -int64(n/2) - 1
}

// text reads so many bytes.
func (w *words) text(length int) string {
	if w.fault == api.OK && length > len(w.rest) {
		w.fault = api.ErrShort
	}
	if w.fault != api.OK {
		return ""
	}
	s := w.rest[:length]
	w.rest = w.rest[length:]
	return s
}

func (w *words) window() api.Out {
	o := api.Out{Start: int64(w.num(109951162777)) * 10}
	o.Key = w.text(int(w.num(16)))
	o.Agg.Count = int64(w.num(math.MaxInt64))
	o.Agg.Sum, o.Agg.Min, o.Agg.Max = w.integer(), w.integer(), w.integer()
	for i := range o.Agg.Hist {
		o.Agg.Hist[i] = int64(w.num(math.MaxInt64))
	}
	return o
}

func (w *words) answer() seen.Entry {
	x := seen.Entry{Src: int(w.num(3)), Seq: int(w.num(1099511627776))}
	if code := w.text(1); code != "" {
		x.Code = int(code[0])
	}
	return x
}

// inWords is what bytes are read as, and the error.
func inWords(b string) (has, api.Errno) {
	if len(b) > 32768 {
		return has{}, api.ErrLong
	}
	w := words{rest: b}
	if begin := w.text(1); w.fault == api.OK && begin != "\x01" {
		w.fault = api.ErrForm
	}
	h := has{mark: int64(w.num(1099511627776))}
	for range w.num(32) {
		h.open = append(h.open, w.window())
	}
	for i := range h.lows {
		h.lows[i] = int(w.num(1099511627776))
	}
	for range w.num(64) {
		h.answers = append(h.answers, w.answer())
	}
	if w.fault == api.OK && w.rest != "" {
		w.fault = api.ErrForm
	}
	if w.fault != api.OK {
		return has{}, w.fault
	}
	if _, e := shard.Of(h.mark, h.open, h.lows[:], h.answers); e != api.OK {
		return has{}, e
	}
	if !slices.IsSortedFunc(h.open, byRow) {
		return has{}, api.ErrForm
	}
	return h, api.OK
}

// byRow is how windows stand: by Start, then by key.
func byRow(a, b api.Out) int {
	switch {
	case a.Start != b.Start:
		return int(a.Start/10 - b.Start/10)
	case a.Key < b.Key:
		return -1
	case a.Key > b.Key:
		return 1
	}
	return 0
}

// checkAny reads bytes, and holds that against the words; it tells the error.
func checkAny(t *testing.T, b string) api.Errno {
	t.Helper()
	h, e := inWords(b)
	if e == api.OK {
		checkRead(t, b, h)
	} else {
		checkWrong(t, b, e)
	}
	return e
}

// someStates are states to which rows of items were applied.
func someStates(count int) []*shard.State {
	n := noise(5)
	var l []*shard.State
	for k := range count {
		s := shard.New()
		from := []int{1, 120, 1 << 39, most - 40}[k%4]
		at := []int64{0, 1200, 1 << 39, last - 400}[k/4%4]
		for i := range 10 + n.below(120) {
			s.Apply(n.someItem(min(from+i/3, most-16), min(at+int64(i*4), last-200)))
		}
		l = append(l, s)
	}
	return l
}

// hasOf is what a state has.
func hasOf(s *shard.State) has {
	return has{s.Mark(), s.Open(), lows4(s.Lows()), s.Answers()}
}

// P14.1, P14.3: what is read of any state's bytes is that state, and goes its own way from
// then on, as that one does.
func TestThereAndBack(t *testing.T) {
	n := noise(6)
	windows, answers := 0, 0
	for _, s := range someStates(200) {
		h := hasOf(s)
		checkPack(t, s, bytesOf(h))
		u := checkRead(t, bytesOf(h), h)
		left := checkRead(t, bytesOf(h), h)
		if !shard.Same(s, u) {
			t.Fatalf("what is read of %s is not the same", shown(bytesOf(h)))
		}
		for i := range 40 {
			x := n.someItem(min(h.lows[n.below(4)]+i/3, most-16), min(h.mark+int64(i), last-200))
			code, outs, fresh := s.Apply(x)
			if c, o, f := u.Apply(x); c != code || !slices.Equal(o, outs) || f != fresh {
				t.Fatalf("Apply(%+v) is %d, %v, %t, and of what was read %d, %v, %t", x, code, outs, fresh, c, o, f)
			}
		}
		if !shard.Same(s, u) {
			t.Fatalf("what was read of %s goes on otherwise", shown(bytesOf(h)))
		}
		checkState(t, left, h)
		windows, answers = windows+len(h.open), answers+len(h.answers)
	}
	if windows < 1500 || answers < 2000 {
		t.Errorf("there were %d windows and %d answers: too few to show anything", windows, answers)
	}
}

// P14.3: of any two states, their bytes are the same just if they are.
func TestTheSameJustIfTheirBytesAre(t *testing.T) {
	var all []*shard.State
	for _, s := range someStates(40) {
		all = append(all, s, s.Twin(), stateOf(t, hasOf(s)))
		other := s.Twin()
		other.Apply(mark(0, s.Lows()[0], s.Lows()[0], s.Mark()+1))
		all = append(all, other)
	}
	for _, h := range wholes() {
		all = append(all, stateOf(t, h))
	}
	same := 0
	for _, a := range all {
		for _, b := range all {
			p, _ := snap.Pack(a)
			q, _ := snap.Pack(b)
			if shard.Same(a, b) != (p == q) {
				t.Fatalf("Same is %t of %s and %s", shard.Same(a, b), shown(p), shown(q))
			}
			if p == q {
				same++
			}
		}
	}
	if same < len(all)*2 || same == len(all)*len(all) {
		t.Errorf("%d of %d were the same: too few to show anything", same, len(all)*len(all))
	}
}

// P14.2, P14.3: bytes of which one is turned into any other one.
func TestEachByteTurned(t *testing.T) {
	found := [13]int{}
	for _, h := range []has{{lows: first}, {mark: 300, lows: lows4{1, 300, 5, most}}, small(), some()} {
		b := []byte(bytesOf(h))
		for i, was := range b {
			for other := range 256 {
				b[i] = byte(other)
				found[checkAny(t, string(b))]++
			}
			b[i] = was
		}
	}
	if found[api.OK] < 1000 || found[api.ErrArg] < 1000 || found[api.ErrShort] < 500 || found[api.ErrForm] < 5000 {
		t.Errorf("the errors were %d: too few to show anything", found)
	}
}

// turned is bytes that were changed here and there: a byte turned, put in, left out, or a
// piece of them moved.
func (n *noise) turned(b string) string {
	l := []byte(b)
	for range 1 + n.below(3) {
		i := n.below(len(l) + 1)
		k := i + n.below(len(l)-i+1)
		switch n.below(6) {
		case 0:
			l = slices.Insert(l, i, byte(n.below(256)))
		case 1:
			l = slices.Delete(l, i, min(k, i+1+n.below(3)))
		case 2:
			piece := slices.Clone(l[i:k])
			l = slices.Insert(slices.Delete(l, i, k), n.below(i+1), piece...)
		case 3:
			l = slices.Insert(l, n.below(len(l)+1), l[i:min(k, i+20)]...)
		default:
			if i < len(l) {
				l[i] = []byte{0, 1, l[i] + 1, l[i] - 1, l[i] ^ 128, byte(n.below(256))}[n.below(6)]
			}
		}
	}
	return string(l)
}

// P14.2, P14.3: bytes that are turned here and there, beside what the words say.
func TestBytesTurnedHereAndThere(t *testing.T) {
	n := noise(7)
	found := [13]int{}
	var all []string
	for _, s := range someStates(60) {
		all = append(all, bytesOf(hasOf(s)))
	}
	for _, h := range wholes() {
		all = append(all, bytesOf(h))
	}
	for range 400 {
		for _, b := range all {
			found[checkAny(t, n.turned(b))]++
		}
	}
	for _, e := range []api.Errno{api.OK, api.ErrArg, api.ErrThere, api.ErrShort, api.ErrForm, api.ErrOld} {
		if found[e] < 5 {
			t.Errorf("the errors were %d: too few to show anything", found)
			break
		}
	}
}

// P14.2, P14.3: fields that are changed for others like them, beside what the words say.
func TestFieldsChanged(t *testing.T) {
	n := noise(8)
	found := [13]int{}
	for _, s := range someStates(60) {
		all := fields(hasOf(s))
		for range 100 {
			l := slices.Clone(all)
			for range 1 + n.below(2) {
				i, k := n.below(len(l)), n.below(len(l))
				switch n.below(4) {
				case 0:
					l[i].b = l[k].b
				case 1:
					l[i].b, l[k].b = l[k].b, l[i].b
				case 2:
					l[i].b = num(uint64(n.below(70)))
				default:
					l[i].b = num([]uint64{most, most + 1, math.MaxInt64, 1 << 63, math.MaxUint64}[n.below(5)])
				}
			}
			found[checkAny(t, joined(l))]++
		}
	}
	for _, e := range []api.Errno{api.OK, api.ErrArg, api.ErrShort, api.ErrForm, api.ErrOld} {
		if found[e] < 10 {
			t.Errorf("the errors were %d: too few to show anything", found)
			break
		}
	}
}

// P14.2: all short texts of a few bytes behind the beginning of one, beside what the words
// say.
func TestAllShortTexts(t *testing.T) {
	few := []string{"\x00", "\x01", "\x02", "\x10", "\x21", "\x80", "\xff"}
	found := [13]int{}
	for _, begin := range []string{"", "\x01", "\x01\x00\x00", "\x01\x00\x00\x01\x01\x01", "\x01\x00\x01\x00\x01a\x01\x02\x02\x02\x00\x01", "\x01\x00\x00\x01\x01\x01\x01\x01"} {
		for row := range len(few) * len(few) * len(few) * len(few) {
			b := begin
			for range 4 {
				b += few[row%len(few)]
				row /= len(few)
				found[checkAny(t, b)]++
			}
		}
	}
	if found[api.OK] < 1 || found[api.ErrArg] < 10 || found[api.ErrShort] < 1000 || found[api.ErrForm] < 1000 {
		t.Errorf("the errors were %d: too few to show anything", found)
	}
}

// R1: Read ends for any bytes.
func TestAnyBytes(t *testing.T) {
	n := noise(9)
	for range 20000 {
		b := make([]byte, n.below(60))
		for i := range b {
			b[i] = byte(n.below([]int{3, 40, 256}[n.below(3)]))
		}
		checkAny(t, string(b))
		checkAny(t, "\x01"+string(b))
	}
}
