package snap_test

import (
	"encoding/hex"
	"math"
	"slices"
	"strconv"
	"strings"
	"testing"
	"unsafe"

	"meter/agg"
	"meter/api"
	"meter/seen"
	"meter/shard"
	"meter/snap"
)

const (
	// last is the last moment, lastStart the Start of its window.
	last      = 1099511627776
	lastStart = 1099511627770
	// most is the greatest low mark, and the greatest Seq.
	most = 1099511627776
	// room is how many windows may be open, ahead how many answers a source may have.
	room    = 32
	ahead   = 16
	longest = "abcdefghijklmnop"
	// whole is how many bytes there may be.
	whole = 32768
	// none is the bytes of a new state.
	none = "\x01\x00\x00\x01\x01\x01\x01\x00"
)

type lows4 = [4]int

// first is the low marks of a new state.
var first = lows4{1, 1, 1, 1}

// has is what a state has.
type has struct {
	mark    int64
	open    []api.Out
	lows    lows4
	answers []seen.Entry
}

func (h has) clone() has {
	h.open, h.answers = slices.Clone(h.open), slices.Clone(h.answers)
	return h
}

// said is an item's code.
func said(src, seq, code int) seen.Entry { return seen.Entry{Src: src, Seq: seq, Code: code} }

// out is a window with the aggregate of some values.
func out(key string, start int64, values ...int64) api.Out {
	return api.Out{Key: key, Start: start, Agg: agg.Of(values)}
}

func add(src, seq, low int, key string, at, v int64) api.Item {
	return api.Item{Src: src, Seq: seq, Low: low, Kind: api.Add, Key: key, At: at, N: v}
}

func mark(src, seq, low int, at int64) api.Item {
	return api.Item{Src: src, Seq: seq, Low: low, Kind: api.Mark, At: at}
}

// num is a number, and integer an integer, as the words of chapter 2 say.
func num(n uint64) string {
	if n < 128 {
		return string([]byte{byte(n)})
	}
	return string([]byte{byte(n%128) + 128}) + num(n/128)
}

func integer(n int64) string {
	if n < 0 {
		return num(uint64(-(n+1))*2 + 1)
	}
	return num(uint64(n) * 2)
}

// field is one number, integer, text or byte.
type field struct{ name, b string }

// fields are what a state's bytes are made of, as the chapter's words say.
func fields(h has) []field {
	l := []field{{"begin", "\x01"}, {"mark", num(uint64(h.mark))}, {"windows", num(uint64(len(h.open)))}}
	for i, w := range h.open {
		k := strconv.Itoa(i)
		l = append(l, field{"start" + k, num(uint64(w.Start / 10))}, field{"key" + k, num(uint64(len(w.Key))) + w.Key},
			field{"count" + k, num(uint64(w.Agg.Count))}, field{"sum" + k, integer(w.Agg.Sum)}, field{"min" + k, integer(w.Agg.Min)}, field{"max" + k, integer(w.Agg.Max)})
		for bucket, n := range w.Agg.Hist {
			l = append(l, field{"hist" + k + "." + strconv.Itoa(bucket), num(uint64(n))})
		}
	}
	for src, low := range h.lows {
		l = append(l, field{"low" + strconv.Itoa(src), num(uint64(low))})
	}
	l = append(l, field{"answers", num(uint64(len(h.answers)))})
	for i, a := range h.answers {
		k := strconv.Itoa(i)
		l = append(l, field{"src" + k, num(uint64(a.Src))}, field{"seq" + k, num(uint64(a.Seq))}, field{"code" + k, string([]byte{byte(a.Code)})})
	}
	return l
}

// with are those fields, some of which have other bytes: name, bytes, name, bytes ..
func with(t *testing.T, l []field, others ...string) []field {
	t.Helper()
	l = slices.Clone(l)
	for ; len(others) > 0; others = others[2:] {
		i := slices.IndexFunc(l, func(f field) bool { return f.name == others[0] })
		if i < 0 {
			t.Fatalf("there is no field %s", others[0])
		}
		l[i].b = others[1]
	}
	return l
}

func joined(l []field) string {
	var b strings.Builder
	for _, f := range l {
		b.WriteString(f.b)
	}
	return b.String()
}

// bytesOf is the bytes of what a state has.
func bytesOf(h has) string { return joined(fields(h)) }

// shown is bytes in a line, not all of many.
func shown(b string) string {
	if len(b) > 200 {
		return hex.EncodeToString([]byte(b[:200])) + ".. of " + strconv.Itoa(len(b))
	}
	return hex.EncodeToString([]byte(b))
}

// stateOf is a state of what one may have.
func stateOf(t *testing.T, h has) *shard.State {
	t.Helper()
	s, e := shard.Of(h.mark, h.open, h.lows[:], h.answers)
	if s == nil || e != api.OK {
		t.Fatalf("Of(%+v) is %p, %d", h, s, e)
	}
	return s
}

// checkState holds a state against what it should have.
func checkState(t *testing.T, s *shard.State, want has) {
	t.Helper()
	if s.Mark() != want.mark || !slices.Equal(s.Open(), want.open) || !slices.Equal(s.Lows(), want.lows[:]) || !slices.Equal(s.Answers(), want.answers) {
		t.Fatalf("the state has %d, %v, %d, %v, want %+v", s.Mark(), s.Open(), s.Lows(), s.Answers(), want)
	}
}

func checkPack(t *testing.T, s *shard.State, want string) {
	t.Helper()
	if b, e := snap.Pack(s); b != want || e != api.OK {
		t.Fatalf("Pack is %s, %d, want %s", shown(b), e, shown(want))
	}
}

// checkRead reads bytes that are a state's, and packs that again.
func checkRead(t *testing.T, b string, want has) *shard.State {
	t.Helper()
	s, e := snap.Read(b)
	if s == nil || e != api.OK {
		t.Fatalf("Read(%s) is %p, %d", shown(b), s, e)
	}
	checkState(t, s, want)
	checkPack(t, s, b)
	return s
}

// checkWrong reads bytes that are no state's.
func checkWrong(t *testing.T, b string, want api.Errno) {
	t.Helper()
	if s, e := snap.Read(b); s != nil || e != want {
		t.Fatalf("Read(%s) is %p, %d, want nil, %d", shown(b), s, e, want)
	}
}

// some is what a state may have: each code, sources with and without answers, keys of the
// least and of the greatest length, aggregates below 0, above, and at both ends.
func some() has {
	return has{
		mark: 44,
		open: []api.Out{out("a", 30, 5), out("\xff", 30, -7, 800), out(longest, 40, math.MinInt64, math.MaxInt64), out("b", lastStart, math.MinInt64, -1), out("c", lastStart, math.MaxInt64, 1)},
		lows: lows4{5, 1, 100, most - 15},
		answers: []seen.Entry{
			said(0, 5, 1), said(0, 9, 2), said(0, 10, 3), said(0, 20, 4),
			said(2, 101, 4), said(2, 115, 1), said(3, most-15, 2), said(3, most, 3),
		},
	}
}

// small is one window and one answer.
func small() has {
	return has{open: []api.Out{out("a", 0, 5)}, lows: first, answers: []seen.Entry{said(0, 1, 1)}}
}

// fullest is as much as a state may have, each part of as many bytes as may be.
func fullest() has {
	h := has{mark: last, lows: lows4{most - 15, most - 15, most - 15, most - 15}}
	greatest := api.Agg{Count: math.MaxInt64, Sum: math.MinInt64, Min: math.MinInt64, Max: math.MaxInt64}
	for i := range greatest.Hist {
		greatest.Hist[i] = math.MaxInt64
	}
	for i := range room {
		h.open = append(h.open, api.Out{Key: longest[:15] + string([]byte{byte(200 + i)}), Start: lastStart, Agg: greatest})
	}
	for src := range 4 {
		for i := range ahead {
			h.answers = append(h.answers, said(src, most-15+i, 1+(src+i)%4))
		}
	}
	return h
}

// wholes are what states may have: nothing, one thing alone, some, all that there may be.
func wholes() []has {
	return []has{
		{lows: first},
		{mark: 15, lows: first},
		{mark: last, lows: first},
		{lows: first, open: []api.Out{out("a", 0, 1)}},
		{lows: lows4{1, 2, 300, most}},
		{lows: first, answers: []seen.Entry{said(3, 16, 4)}},
		small(),
		some(),
		fullest(),
	}
}

// The numbers of the errors, and the limits, that the chapter names.
func TestErrorsAndLimits(t *testing.T) {
	errors := [...]api.Errno{api.ErrNil, api.ErrLong, api.ErrShort, api.ErrForm, api.ErrArg, api.ErrThere, api.ErrFull, api.ErrOld}
	if errors != [...]api.Errno{2, 3, 7, 8, 1, 5, 6, 12} {
		t.Errorf("the errors are %d", errors)
	}
	if limits := [...]int{api.MaxSnap, api.MaxTime, api.MaxOpen, api.MaxKey, api.MaxSrc, api.MaxAhead, api.Width}; limits != [...]int{whole, last, room, 16, 4, ahead, 10} {
		t.Errorf("the limits are %d", limits)
	}
}

// P14.1, P14.2: the chapter's examples.
func TestExamples(t *testing.T) {
	checkPack(t, shard.New(), "\x01\x00\x00\x01\x01\x01\x01\x00")
	checkRead(t, "\x01\x00\x00\x01\x01\x01\x01\x00", has{lows: first})
	checkWrong(t, "\x01\x00\x00\x01\x01\x01\x01", api.ErrShort)
	for _, more := range []string{"\x00", "\x01", "\xff"} {
		checkWrong(t, "\x01\x00\x00\x01\x01\x01\x01\x00"+more, api.ErrForm)
	}
	checkWrong(t, "\x02\x00\x00\x01\x01\x01\x01\x00", api.ErrForm)
	checkWrong(t, "\x01\x00\x00\x00\x01\x01\x01\x00", api.ErrArg)
	checkWrong(t, "", api.ErrShort)
}

// P14.1: of a nil state, and of one that nobody made, there are no bytes, whatever was
// handed to it.
func TestPackOfNone(t *testing.T) {
	var unmade shard.State
	for _, s := range []*shard.State{nil, &unmade, unmade.Twin(), (*shard.State)(nil).Twin()} {
		for range 2 {
			if b, e := snap.Pack(s); b != "" || e != api.ErrNil {
				t.Errorf("Pack is %s, %d, want none, %d", shown(b), e, api.ErrNil)
			}
			s.Apply(add(0, 1, 1, "a", 3, 5))
			s.Apply(mark(0, 2, 2, 15))
		}
	}
}

// P14.1, P14.2: states whose bytes are written out by hand.
func TestByHand(t *testing.T) {
	for _, c := range []struct {
		b string
		h has
	}{
		{"01 19 00 01010101 00", has{mark: 25, lows: first}},
		{"01 ac02 00 01010101 00", has{mark: 300, lows: first}},
		{"01 808080808020 00 01010101 00", has{mark: last, lows: first}},
		{"01 00 01 00 0161 01 0a 0a 0a 00 01 00 00 01010101 00", has{open: []api.Out{out("a", 0, 5)}, lows: first}},
		{"01 00 01 01 02ff00 02 01 05 04 01 01 00 00 01010101 00", has{open: []api.Out{out("\xff\x00", 10, 2, -3)}, lows: first}},
		{"01 0f 01 ac02 10" + hex.EncodeToString([]byte(longest)) + "03 cc03 01 c801 01 00 00 02 01010101 00",
			has{mark: 15, open: []api.Out{{Key: longest, Start: 3000, Agg: api.Agg{Count: 3, Sum: 230, Min: -1, Max: 100, Hist: [4]int64{1, 0, 0, 2}}}}, lows: first}},
		{"01 00 01 99b3e6cc9903 0161 01 ffffffffffffffffff01 ffffffffffffffffff01 ffffffffffffffffff01 01 00 00 00 01010101 00",
			has{open: []api.Out{out("a", lastStart, math.MinInt64)}, lows: first}},
		{"01 00 01 00 0161 01 feffffffffffffffff01 feffffffffffffffff01 feffffffffffffffff01 00 00 00 01 01010101 00",
			has{open: []api.Out{out("a", 0, math.MaxInt64)}, lows: first}},
		{"01 00 01 00 0161 ffffffffffffffff7f 00 00 00 00 ffffffffffffffff7f 00 00 01010101 00",
			has{open: []api.Out{{Key: "a", Agg: api.Agg{Count: math.MaxInt64, Hist: [4]int64{0, math.MaxInt64}}}}, lows: first}},
		{"01 00 02 00 0162 01 02 02 02 00 01 00 00 01 0161 01 04 04 04 00 01 00 00 01010101 00",
			has{open: []api.Out{out("b", 0, 1), out("a", 10, 2)}, lows: first}},
		{"01 00 00 02 8001 808080808020 01 00", has{lows: lows4{2, 128, most, 1}}},
		{"01 00 00 01010101 01 03 10 04", has{lows: first, answers: []seen.Entry{said(3, 16, 4)}}},
		{"01 00 00 0901 7f 01 05 00 0a 01 00 18 02 02 7f 03 02 8001 04 02 8e01 01",
			has{lows: lows4{9, 1, 127, 1}, answers: []seen.Entry{said(0, 10, 1), said(0, 24, 2), said(2, 127, 3), said(2, 128, 4), said(2, 142, 1)}}},
		{"01 2c 01 03 0161 01 0a 0a 0a 00 01 00 00 05 01 01 01 01 00 07 02",
			has{mark: 44, open: []api.Out{out("a", 30, 5)}, lows: lows4{5, 1, 1, 1}, answers: []seen.Entry{said(0, 7, 2)}}},
	} {
		b, e := hex.DecodeString(strings.ReplaceAll(c.b, " ", ""))
		if e != nil {
			t.Fatal(e)
		}
		checkPack(t, stateOf(t, c.h), string(b))
		checkRead(t, string(b), c.h)
		if bytesOf(c.h) != string(b) {
			t.Errorf("in words the bytes are %s, want %s", shown(bytesOf(c.h)), shown(string(b)))
		}
	}
}

// P14.1, P14.2, P14.3: any states' bytes are as the words say, and are read.
func TestWholes(t *testing.T) {
	for _, h := range wholes() {
		checkPack(t, stateOf(t, h), bytesOf(h))
		checkRead(t, bytesOf(h), h)
		turned := h.clone()
		slices.Reverse(turned.open)
		checkPack(t, stateOf(t, turned), bytesOf(h))
	}
}

// P14.1: the bytes of the fullest state, none of whose parts could have more, are not more
// than there may be.
func TestFullest(t *testing.T) {
	b, e := snap.Pack(stateOf(t, fullest()))
	if e != api.OK || len(b) > whole {
		t.Fatalf("Pack of the fullest state is %d bytes, %d", len(b), e)
	}
	if want := 1 + 6 + 1 + room*(6+17+9+3*10+4*9) + 4*6 + 1 + 4*ahead*(1+6+1); len(b) > want || len(b) < want-4*ahead*2 {
		t.Errorf("Pack of the fullest state is %d bytes, want about %d", len(b), want)
	}
}

// P14.1: Pack changes nothing.
func TestPackChangesNothing(t *testing.T) {
	for _, h := range wholes() {
		s := stateOf(t, h)
		twin := s.Twin()
		for range 3 {
			checkPack(t, s, bytesOf(h))
			checkState(t, s, h)
		}
		checkPack(t, twin, bytesOf(h))
		for _, one := range []*shard.State{s, twin} {
			one.Apply(mark(1, 2, 2, last))
			one.Apply(add(1, 3, 2, "b", last, 1))
		}
		if !shard.Same(s, twin) {
			t.Error("a state that was packed goes on otherwise")
		}
	}
}

// P14.2: more than there may be is too long, whatever it is; as much as there may be is
// read.
func TestReadOfMuch(t *testing.T) {
	for _, begin := range []string{"", none, bytesOf(fullest()), bytesOf(some()), "\x02", "\x01\x80"} {
		for _, fill := range []string{"\x00", "\x01", "\x02", "\x80", "\xff"} {
			b := begin + strings.Repeat(fill, 2*whole)
			checkWrong(t, b, api.ErrLong)
			checkWrong(t, b[:whole+1], api.ErrLong)
			checkWrong(t, b[:whole], api.ErrForm)
		}
	}
}

// P14.2: the first byte is 1.
func TestFirstByte(t *testing.T) {
	for b := range 256 {
		for _, rest := range []string{none[1:], bytesOf(some())[1:]} {
			if b != 1 {
				checkWrong(t, string([]byte{byte(b)})+rest, api.ErrForm)
			}
		}
		switch begin := string([]byte{byte(b)}); {
		case b == 1:
			checkWrong(t, begin, api.ErrShort)
		default:
			checkWrong(t, begin, api.ErrForm)
			checkWrong(t, begin+"\x80", api.ErrForm)
		}
	}
}

// above are numbers above one, some of which are it, or less, in fewer bits.
func above(n uint64) []uint64 {
	return []uint64{n + 1, n + 2, 2*n + 2, 1 << 63, 1<<63 + 1, 1<<63 + n, math.MaxUint64, math.MaxUint64 - n}
}

// P14.2: a mark is not above the last moment.
func TestMarks(t *testing.T) {
	for _, at := range []int64{0, 1, 127, 128, last - 1, last} {
		h := has{mark: at, lows: first}
		checkRead(t, joined(with(t, fields(has{lows: first}), "mark", num(uint64(at)))), h)
	}
	for _, h := range wholes() {
		for _, at := range above(last) {
			checkWrong(t, joined(with(t, fields(h), "mark", num(at))), api.ErrForm)
		}
	}
}

// P14.2: there are not more open windows than there may be.
func TestHowManyWindows(t *testing.T) {
	h := has{lows: first}
	for i := range room + 4 {
		checkNumber := func(n uint64, want api.Errno) {
			t.Helper()
			b := joined(with(t, fields(h), "windows", num(n)))
			if want == api.OK {
				checkRead(t, b, h)
			} else {
				checkWrong(t, b, want)
			}
		}
		switch {
		case i <= room:
			checkNumber(uint64(i), api.OK)
		default:
			checkNumber(uint64(i), api.ErrForm)
		}
		for _, n := range above(room) {
			checkNumber(n, api.ErrForm)
		}
		h.open = append(h.open, out("a", int64(10*i), 1))
	}
	// There is none of the windows that are told of.
	checkWrong(t, "\x01\x00\x20", api.ErrShort)
	checkWrong(t, "\x01\x00\x21", api.ErrForm)
}

// P14.2: a Start by Width is not above that of the last moment's window.
func TestStarts(t *testing.T) {
	for _, start := range []int64{0, 10, 1270, 1280, lastStart - 10, lastStart} {
		h := small()
		h.open[0].Start = start
		checkRead(t, joined(with(t, fields(small()), "start0", num(uint64(start/10)))), h)
	}
	for _, start := range above(lastStart / 10) {
		checkWrong(t, joined(with(t, fields(small()), "start0", num(start))), api.ErrForm)
		checkWrong(t, joined(with(t, fields(some()), "start4", num(start))), api.ErrForm)
	}
	// By Width these are 0 and 10 in 64 bits.
	for _, start := range []uint64{1 << 63, 1<<63 + 1} {
		checkWrong(t, joined(with(t, fields(small()), "start0", num(start))), api.ErrForm)
	}
}

// P14.2: a key has not more bytes than it may, and shard.Of says that it has some.
func TestKeys(t *testing.T) {
	for length := 1; length <= len(longest); length++ {
		h := small()
		h.open[0].Key = longest[:length]
		checkRead(t, joined(with(t, fields(small()), "key0", num(uint64(length))+longest[:length])), h)
	}
	checkWrong(t, joined(with(t, fields(small()), "key0", "\x00")), api.ErrArg)
	checkWrong(t, joined(with(t, fields(small()), "key0", "\x11"+longest+"q")), api.ErrForm)
	checkWrong(t, joined(with(t, fields(some()), "key4", "\x11"+longest+"q")), api.ErrForm)
	checkWrong(t, joined(with(t, fields(small()), "key0", num(272)+strings.Repeat("x", 272))), api.ErrForm)
	for _, length := range above(16) {
		checkWrong(t, joined(with(t, fields(small()), "key0", num(length)+"a")), api.ErrForm)
		checkWrong(t, "\x01\x00\x01\x00"+num(length), api.ErrForm)
	}
	checkWrong(t, "\x01\x00\x01\x00\x10"+longest[:15], api.ErrShort)
	checkWrong(t, "\x01\x00\x01\x00\x10"+longest, api.ErrShort)
}

// P14.2: a Count, and each of Hist, is within int64.
func TestCounts(t *testing.T) {
	const top = math.MaxInt64
	held := small()
	held.open[0].Agg.Count, held.open[0].Agg.Hist[1] = top, top
	checkRead(t, joined(with(t, fields(small()), "count0", num(top), "hist0.1", num(top))), held)
	for bucket := range 4 {
		name := "hist0." + strconv.Itoa(bucket)
		h := small()
		h.open[0].Agg.Hist[bucket] = top
		checkRead(t, joined(with(t, fields(small()), name, num(top))), h)
		for _, n := range []uint64{top + 1, top + 2, math.MaxUint64 - 1, math.MaxUint64} {
			checkWrong(t, joined(with(t, fields(small()), name, num(n))), api.ErrForm)
			checkWrong(t, joined(with(t, fields(held), name, num(n))), api.ErrForm)
			checkWrong(t, joined(with(t, fields(some()), "hist4."+strconv.Itoa(bucket), num(n))), api.ErrForm)
		}
	}
	for _, n := range []uint64{top + 1, top + 2, math.MaxUint64 - 1, math.MaxUint64} {
		checkWrong(t, joined(with(t, fields(small()), "count0", num(n))), api.ErrForm)
		checkWrong(t, joined(with(t, fields(held), "count0", num(n))), api.ErrForm)
		checkWrong(t, joined(with(t, fields(some()), "count2", num(n))), api.ErrForm)
	}
}

// P14.2: a low mark is not above the greatest one, and shard.Of says that it is at least 1.
func TestLows(t *testing.T) {
	for src := range 4 {
		name := "low" + strconv.Itoa(src)
		for _, low := range []int{1, 2, 127, 128, most - 1, most} {
			h := has{lows: first}
			h.lows[src] = low
			checkRead(t, joined(with(t, fields(has{lows: first}), name, num(uint64(low)))), h)
		}
		for _, low := range above(most) {
			checkWrong(t, joined(with(t, fields(has{lows: first}), name, num(low))), api.ErrForm)
			checkWrong(t, joined(with(t, fields(some()), name, num(low))), api.ErrForm)
		}
		checkWrong(t, joined(with(t, fields(has{lows: first}), name, "\x00")), api.ErrArg)
	}
}

// P14.2: there are not more answers than there may be.
func TestHowManyAnswers(t *testing.T) {
	h := has{lows: lows4{1, 95, 300, most - 15}}
	for i := range 4 * ahead {
		h.answers = append(h.answers, said(i/ahead, h.lows[i/ahead]+i%ahead, 1+i%4))
	}
	checkRead(t, bytesOf(h), h)
	for _, n := range above(4 * ahead) {
		checkWrong(t, joined(with(t, fields(h), "answers", num(n))), api.ErrForm)
		checkWrong(t, none[:7]+num(n), api.ErrForm)
	}
	h.answers = append(h.answers, said(3, most, 1))
	checkWrong(t, bytesOf(h), api.ErrForm)
	checkWrong(t, joined(with(t, fields(h), "answers", num(4*ahead))), api.ErrForm)
	checkWrong(t, none[:7]+num(4*ahead), api.ErrShort)
}

// P14.2: a Src is a source's.
func TestSources(t *testing.T) {
	for src := range 4 {
		h := small()
		h.answers[0].Src = src
		checkRead(t, joined(with(t, fields(small()), "src0", num(uint64(src)))), h)
	}
	for _, src := range append(above(3), 9, 255, 256, 1<<32) {
		checkWrong(t, joined(with(t, fields(small()), "src0", num(src))), api.ErrForm)
		checkWrong(t, joined(with(t, fields(some()), "src7", num(src))), api.ErrForm)
	}
}

// P14.2: a Seq is not above the greatest one, though shard.Of may take it; and shard.Of
// says which it may be beside its source's low mark.
func TestSeqs(t *testing.T) {
	h := has{lows: lows4{1, most, 1, 1}, answers: []seen.Entry{said(1, most, 1)}}
	checkRead(t, joined(with(t, fields(h), "seq0", num(most))), h)
	for _, seq := range above(most) {
		checkWrong(t, joined(with(t, fields(h), "seq0", num(seq))), api.ErrForm)
	}
	if _, e := shard.Of(0, nil, h.lows[:], []seen.Entry{said(1, most+1, 1)}); e != api.OK {
		t.Errorf("Of is %d", e)
	}
	for seq, want := range map[uint64]api.Errno{0: api.ErrArg, 1: api.OK, 16: api.OK, 17: api.ErrArg, most: api.ErrArg, most + 1: api.ErrForm} {
		if _, e := snap.Read(joined(with(t, fields(small()), "seq0", num(seq)))); e != want {
			t.Errorf("a Seq %d: %d, want %d", seq, e, want)
		}
	}
}

// P14.2: a Code is one byte, whichever; shard.Of says which it may be.
func TestCodes(t *testing.T) {
	for code := range 256 {
		b := joined(with(t, fields(small()), "code0", string([]byte{byte(code)})))
		if code < 1 || code > 4 {
			checkWrong(t, b, api.ErrArg)
			continue
		}
		h := small()
		h.answers[0].Code = code
		checkRead(t, b, h)
	}
}

// P14.2: bytes that are cut at any place are too short; with a byte more they are no
// state's.
func TestCutAndLonger(t *testing.T) {
	for _, h := range wholes() {
		b := bytesOf(h)
		for i := range len(b) {
			checkWrong(t, b[:i], api.ErrShort)
		}
		for more := range 256 {
			checkWrong(t, b+string([]byte{byte(more)}), api.ErrForm)
		}
		checkWrong(t, b+b, api.ErrForm)
	}
}

// isNumber says whether a field begins with a number, or an integer.
func isNumber(f field) bool { return f.name != "begin" && !strings.HasPrefix(f.name, "code") }

// P14.2: each number, and each integer, is written in as few bytes as may be, and has no
// more bits than there are.
func TestNumbersThatAreLonger(t *testing.T) {
	for _, h := range []has{{lows: first}, small(), some()} {
		all := fields(h)
		for i, f := range all {
			if !isNumber(f) {
				continue
			}
			// Of a key it is the length alone.
			length := 1
			for f.b[length-1] >= 128 {
				length++
			}
			n, rest := f.b[:length], f.b[length:]
			open := n[:length-1] + string([]byte{n[length-1] | 128})
			least, greatest := strings.Repeat("\x80", 9), strings.Repeat("\xff", 9)
			for _, b := range []string{
				open + "\x00", open + "\x80\x00", least + "\x00", least + "\x02", greatest + "\x02", greatest + "\x7f",
				least + "\x80", least + "\x80\x01", greatest + "\xff\x01",
			} {
				other := slices.Clone(all)
				other[i].b = b + rest
				checkWrong(t, joined(other), api.ErrForm)
				checkWrong(t, joined(other[:i])+b, api.ErrForm)
			}
			if length < 10 {
				checkWrong(t, joined(all[:i])+open, api.ErrShort)
			}
			checkWrong(t, joined(all[:i])+strings.Repeat("\x80", 9), api.ErrShort)
		}
	}
}

// P14.2: bytes of which shard.Of makes no state have its error.
func TestErrorsOfShard(t *testing.T) {
	change := func(want api.Errno, do func(h *has)) {
		t.Helper()
		h := some()
		do(&h)
		checkWrong(t, bytesOf(h), want)
		if _, e := shard.Of(h.mark, h.open, h.lows[:], h.answers); e != want {
			t.Fatalf("Of is %d, want %d", e, want)
		}
	}
	change(api.ErrOld, func(h *has) { h.mark = 45 })
	change(api.ErrOld, func(h *has) { h.mark = last })
	change(api.ErrOld, func(h *has) { h.open[0].Start = 20 })
	change(api.ErrThere, func(h *has) { h.open[1] = h.open[0] })
	change(api.ErrThere, func(h *has) { h.open[4].Key = "b" })
	change(api.ErrArg, func(h *has) { h.open[0].Key = "" })
	change(api.ErrArg, func(h *has) { h.open[3].Key = "" })
	change(api.ErrArg, func(h *has) { h.open[0].Agg = api.Agg{} })
	change(api.ErrArg, func(h *has) { h.open[0].Agg.Count = 2 })
	change(api.ErrArg, func(h *has) { h.open[0].Agg.Min = 6 })
	change(api.ErrArg, func(h *has) { h.open[0].Agg.Hist[0] = 1 })
	for src := range 4 {
		change(api.ErrArg, func(h *has) { h.lows[src] = 0 })
	}
	change(api.ErrArg, func(h *has) { h.lows[0] = 6 })
	change(api.ErrArg, func(h *has) { h.lows[0] = 4 })
	change(api.ErrArg, func(h *has) { h.lows[3] = most })
	change(api.ErrArg, func(h *has) { h.answers[0].Code = 0 })
	change(api.ErrArg, func(h *has) { h.answers[7].Code = 5 })
	change(api.ErrArg, func(h *has) { h.answers[1].Seq = 5 })
	change(api.ErrArg, func(h *has) { h.answers[0], h.answers[1] = h.answers[1], h.answers[0] })
	change(api.ErrArg, func(h *has) { h.answers[3].Src = 1 })
}

// P14.2: windows in another row are those of a state whose bytes are others.
func TestOtherRows(t *testing.T) {
	h := some()
	for i := range h.open {
		for k := range i {
			turned := h.clone()
			turned.open[i], turned.open[k] = turned.open[k], turned.open[i]
			checkPack(t, stateOf(t, turned), bytesOf(h))
			checkWrong(t, bytesOf(turned), api.ErrForm)
		}
	}
	for i := 1; i < room; i++ {
		turned := fullest()
		turned.open[i-1], turned.open[i] = turned.open[i], turned.open[i-1]
		checkWrong(t, bytesOf(turned), api.ErrForm)
	}
}

// P14.2: of two faults, within one that is met in reading, the first one is told; what is
// met in reading is told ahead of bytes that are left, these ahead of shard.Of's error, that
// ahead of another row; and what is too long ahead of all.
func TestTwoFaults(t *testing.T) {
	all := fields(some())
	form := []string{"mark", "windows", "start0", "key1", "count2", "hist3.0", "low0", "low3", "answers", "src0", "seq7"}
	great := num(math.MaxUint64)
	for _, name := range form {
		wrong := with(t, all, name, great)
		i := slices.IndexFunc(all, func(f field) bool { return f.name == name })
		// Behind it: the end; and ahead of it.
		for k := range all {
			if k > i {
				checkWrong(t, joined(wrong[:k]), api.ErrForm)
				checkWrong(t, joined(wrong[:k])+"\x80", api.ErrForm)
				continue
			}
			checkWrong(t, joined(wrong[:k]), api.ErrShort)
		}
		checkWrong(t, joined(with(t, wrong, "begin", "\x00")), api.ErrForm)
		// Beside shard.Of's errors, ahead of it and behind it.
		for _, other := range [][2]string{{"mark", num(last)}, {"key0", "\x00"}, {"start1", num(2)}, {"count4", "\x00"}, {"low1", "\x00"}, {"code0", "\x00"}, {"code7", "\x09"}} {
			if other[0] != name {
				checkWrong(t, joined(with(t, wrong, other[0], other[1])), api.ErrForm)
			}
		}
	}
	arg := joined(with(t, all, "code7", "\x00"))
	checkWrong(t, arg, api.ErrArg)
	checkWrong(t, arg+"\x00", api.ErrForm)
	checkWrong(t, arg[:len(arg)-1], api.ErrShort)
	old := joined(with(t, all, "mark", num(last)))
	checkWrong(t, old, api.ErrOld)
	checkWrong(t, old+"\x00", api.ErrForm)
	checkWrong(t, old[:len(old)-1], api.ErrShort)
	checkWrong(t, joined(with(t, all, "mark", num(last), "low0", "\x00")), api.ErrOld)
	checkWrong(t, joined(with(t, all, "start0", num(2), "key1", "\x00")), api.ErrOld)
	checkWrong(t, joined(with(t, all, "key0", "\x00", "start1", num(2))), api.ErrArg)

	h := some()
	h.open[0], h.open[1] = h.open[1], h.open[0]
	turned := fields(h)
	checkWrong(t, joined(turned), api.ErrForm)
	checkWrong(t, joined(turned)+"\x00", api.ErrForm)
	checkWrong(t, joined(turned[:len(turned)-1]), api.ErrShort)
	checkWrong(t, joined(with(t, turned, "low0", "\x00")), api.ErrArg)
	checkWrong(t, joined(with(t, turned, "mark", num(last))), api.ErrOld)
	checkWrong(t, joined(with(t, turned, "key4", "\x01b")), api.ErrThere)

	// One window too many, of which shard.Of would say ErrFull, or ErrThere.
	h = fullest()
	h.mark, h.open = 0, append(h.open, h.open[0])
	checkWrong(t, bytesOf(h), api.ErrForm)
	h.open[room] = out("zz", lastStart, 1)
	checkWrong(t, bytesOf(h), api.ErrForm)
	checkWrong(t, "\x02"+strings.Repeat("\x00", whole), api.ErrLong)
}

// P14.3: states that differ in one field alone have other bytes.
func TestOneFieldAlone(t *testing.T) {
	h := has{mark: 14, open: []api.Out{out("a", 0, 5), out("b", 0, 6)}, lows: lows4{2, 3, 4, 5}, answers: []seen.Entry{said(0, 2, 1), said(3, 6, 2)}}
	all := append(others(h), h)
	var bytes []string
	for _, o := range all {
		b, e := snap.Pack(stateOf(t, o))
		if e != api.OK || slices.Contains(bytes, b) {
			t.Fatalf("Pack is %s, %d, as another one's", shown(b), e)
		}
		bytes = append(bytes, b)
		checkRead(t, b, o)
	}
}

// others have one thing alone other than h.
func others(h has) []has {
	var l []has
	change := func(do func(*has)) {
		other := h.clone()
		do(&other)
		l = append(l, other)
	}
	change(func(o *has) { o.mark = 13 })
	change(func(o *has) { o.mark = 0 })
	change(func(o *has) { o.open = o.open[:1] })
	change(func(o *has) { o.open = o.open[1:] })
	change(func(o *has) { o.open = nil })
	change(func(o *has) { o.open = append(o.open, out("c", 0, 1)) })
	change(func(o *has) { o.open[0].Key = "aa" })
	change(func(o *has) { o.open[1].Key = "b\x00" })
	change(func(o *has) { o.open[1].Start = 10 })
	change(func(o *has) { o.open[1].Agg = agg.Of([]int64{6, 6}) })
	change(func(o *has) { o.open[0].Agg = agg.Of([]int64{4}) })
	change(func(o *has) { o.open[0].Agg.Sum = 6 })
	change(func(o *has) { o.open[0].Agg.Sum = -5 })
	change(func(o *has) { o.open[0].Agg.Min = 4 })
	change(func(o *has) { o.open[0].Agg.Max = 6 })
	for bucket := range 4 {
		change(func(o *has) { o.open[0].Agg.Hist[bucket] = math.MaxInt64 })
	}
	change(func(o *has) { o.open[0].Agg.Hist[1], o.open[0].Agg.Count = math.MaxInt64, math.MaxInt64 })
	for src := range len(h.lows) {
		change(func(o *has) { o.lows[src]-- })
	}
	change(func(o *has) { o.answers = o.answers[:1] })
	change(func(o *has) { o.answers = o.answers[1:] })
	change(func(o *has) { o.answers = nil })
	change(func(o *has) { o.answers[0].Code = 2 })
	change(func(o *has) { o.answers[1].Code = 4 })
	change(func(o *has) { o.answers[1].Seq = 7 })
	change(func(o *has) { o.answers[1].Src = 2 })
	change(func(o *has) { o.answers = append(o.answers, said(3, 7, 1)) })
	return l
}

// P14.3: states that came to the same in other ways have the same bytes.
func TestTheSameInOtherWays(t *testing.T) {
	row := []api.Item{
		add(0, 1, 1, "a", 33, 5), add(0, 2, 1, "b", 31, -6), add(1, 1, 1, "a", 39, 200), add(1, 2, 1, "c", 40, 1),
		mark(2, 1, 1, 44), add(2, 2, 1, "", 40, 1), add(3, 1, 1, "a", 3, 1),
	}
	s := shard.New()
	for _, x := range row {
		s.Apply(x)
	}
	h := has{
		mark: 44,
		open: []api.Out{out("a", 30, 5, 200), out("b", 30, -6), out("c", 40, 1)},
		lows: first,
		answers: []seen.Entry{
			said(0, 1, 1), said(0, 2, 1), said(1, 1, 1), said(1, 2, 1), said(2, 1, 1), said(2, 2, 4), said(3, 1, 2),
		},
	}
	checkState(t, s, h)
	checkPack(t, s, bytesOf(h))
	checkPack(t, s.Twin(), bytesOf(h))
	// In another row, each twice, and with what changes nothing.
	for turn := range len(row) {
		other := shard.New()
		other.Apply(mark(2, 1, 1, 44))
		for i := range row {
			x := row[(i+turn)%len(row)]
			other.Apply(x)
			other.Apply(x)
			other.Apply(api.Item{Src: 4, Seq: 1, Low: 1})
		}
		checkPack(t, other, bytesOf(h))
	}
	checkPack(t, checkRead(t, bytesOf(h), h).Twin(), bytesOf(h))
}

// P14.3, R3: what was read goes its own way, as that does of which the bytes are.
func TestReadGoesItsOwnWay(t *testing.T) {
	s := stateOf(t, some())
	b, _ := snap.Pack(s)
	u, v := checkRead(t, b, some()), checkRead(t, b, some())
	if u == v {
		t.Fatal("two readings are one state")
	}
	s.Apply(mark(1, 2, 2, 45))
	u.Apply(add(0, 6, 6, "a", 39, 6))
	checkState(t, v, some())
	checkPack(t, v, b)

	want := some()
	want.mark, want.open, want.lows[1] = 45, want.open[2:], 2
	want.answers = slices.Insert(want.answers, 4, said(1, 2, 1))
	checkPack(t, s, bytesOf(want))
	want = some()
	want.open[0] = out("a", 30, 5, 6)
	want.lows[0] = 6
	want.answers[0] = said(0, 6, 1)
	checkPack(t, u, bytesOf(want))
}

// R4: a key that is kept is no piece of the bytes that it was read from.
func TestBytesAreNotKept(t *testing.T) {
	b := strings.Clone(bytesOf(some()))
	s, _ := snap.Read(b)
	for _, w := range s.Open() {
		begin, at := uintptr(unsafe.Pointer(unsafe.StringData(b))), uintptr(unsafe.Pointer(unsafe.StringData(w.Key)))
		if at >= begin && at < begin+uintptr(len(b)) {
			t.Fatalf("%q is a piece of what was handed in", w.Key)
		}
	}
}
