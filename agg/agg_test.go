package agg_test

import (
	"math"
	"math/big"
	"slices"
	"testing"

	"meter/agg"
	"meter/api"
)

const (
	top    = math.MaxInt64
	bottom = math.MinInt64
)

// slowPlus is a sum in numbers that have no end, held only then.
func slowPlus(a, b int64) int64 {
	s := new(big.Int).Add(big.NewInt(a), big.NewInt(b))
	if s.IsInt64() {
		return s.Int64()
	}
	if s.Sign() > 0 {
		return top
	}
	return bottom
}

// slowBucket finds the bucket by the ends that the chapter names.
func slowBucket(v int64) int {
	for i, e := range [3][2]int64{{bottom, -1}, {0, 9}, {10, 99}} {
		if v >= e[0] && v <= e[1] {
			return i
		}
	}
	return 3
}

// slowPut is the chapter's words on Put, one field behind the other.
func slowPut(a api.Agg, v int64) api.Agg {
	r := a
	r.Count = slowPlus(a.Count, 1)
	r.Sum = slowPlus(a.Sum, v)
	r.Hist[slowBucket(v)] = slowPlus(a.Hist[slowBucket(v)], 1)
	if a.Count == 0 || v < a.Min {
		r.Min = v
	}
	if a.Count == 0 || v > a.Max {
		r.Max = v
	}
	return r
}

// slowJoin is the chapter's words on Join.
func slowJoin(a, b api.Agg) api.Agg {
	r := api.Agg{Count: slowPlus(a.Count, b.Count), Sum: slowPlus(a.Sum, b.Sum)}
	for i := range r.Hist {
		r.Hist[i] = slowPlus(a.Hist[i], b.Hist[i])
	}
	var least, greatest []int64
	for _, x := range []api.Agg{a, b} {
		if x.Count != 0 {
			least, greatest = append(least, x.Min), append(greatest, x.Max)
		}
	}
	if len(least) > 0 {
		r.Min, r.Max = slices.Min(least), slices.Max(greatest)
	}
	return r
}

// slowRight is the chapter's words on what is right.
func slowRight(a api.Agg) bool {
	if a.Count < 0 || slices.Min(a.Hist[:]) < 0 {
		return false
	}
	if a.Count == 0 {
		return a.Sum == 0 && a.Min == 0 && a.Max == 0 && a.Hist == [4]int64{}
	}
	if a.Min > a.Max {
		return false
	}
	if slices.Contains(a.Hist[:], top) {
		return true
	}
	var all int64
	var full []int
	for i, n := range a.Hist {
		all = slowPlus(all, n)
		if n > 0 {
			full = append(full, i)
		}
	}
	return all == a.Count && full[0] == slowBucket(a.Min) && full[len(full)-1] == slowBucket(a.Max)
}

// noise is a row of numbers that look like chance and are the same each time.
type noise uint64

func (n *noise) next() uint64 {
	*n += 0x9e3779b97f4a7c15
	z := uint64(*n)
	z = (z ^ z>>30) * 0xbf58476d1ce4e5b9
	z = (z ^ z>>27) * 0x94d049bb133111eb
	return z ^ z>>31
}

func (n *noise) below(end int) int { return int(n.next() % uint64(end)) }

// number is near an edge, small or of any size.
func (n *noise) number() int64 {
	switch n.below(4) {
	case 0:
		return edges()[n.below(len(edges()))]
	case 1:
		return int64(n.below(300)) - 100
	}
	return int64(n.next()) >> n.below(64)
}

// list is one of less than end numbers.
func (n *noise) list(end int) []int64 {
	l := make([]int64, n.below(end))
	for i := range l {
		l[i] = n.number()
	}
	return l
}

// agg is any aggregate, one that is wrong too.
func (n *noise) agg() api.Agg {
	a := agg.Of(n.list(6))
	for range n.below(4) {
		v := n.number()
		switch n.below(5) {
		case 0:
			a.Count = v
		case 1:
			a.Sum = v
		case 2:
			a.Min = v
		case 3:
			a.Max = v
		case 4:
			a.Hist[n.below(4)] = v
		}
	}
	return a
}

// edges are the ends, those of the buckets, and what lies beside them.
func edges() []int64 {
	return []int64{
		bottom, bottom + 1, bottom + 2, -1 << 62, -1<<62 - 1, -1<<62 + 1, -1 << 32, -1 << 31, -101, -100, -99, -10, -9, -2, -1,
		0, 1, 2, 8, 9, 10, 11, 50, 98, 99, 100, 101, 1000, 1 << 31, 1 << 32, 1<<62 - 1, 1 << 62, 1<<62 + 1, top - 2, top - 1, top,
	}
}

// lists are of no value, of one and of many, within and held.
func lists() [][]int64 {
	all := [][]int64{
		nil, {}, {0}, {7}, {-7}, {5, -3, 100}, {top, 1, -1}, {bottom, -1, 1}, {top, top, bottom, bottom}, {top, bottom},
		{1, 2, 3}, {3, 2, 1}, {2, 3, 1}, {0, 0, 0}, {-1, 0}, {9, 10}, {99, 100}, {-5, 50}, {bottom}, {top}, edges(),
	}
	n := noise(1)
	for range 200 {
		all = append(all, n.list(12))
	}
	return all
}

func checkPlus(t *testing.T, a, b int64) {
	t.Helper()
	if got, want := agg.Plus(a, b), slowPlus(a, b); got != want {
		t.Errorf("Plus(%d, %d) is %d, want %d", a, b, got, want)
	}
}

// P7.1: the chapter's examples, and sums at the ends, worked out beforehand.
func TestPlusAtTheEnds(t *testing.T) {
	for _, c := range [][3]int64{
		{top, 1, top}, {bottom, -1, bottom}, {top, bottom, -1},
		{top, top, top}, {bottom, bottom, bottom}, {top, 0, top}, {bottom, 0, bottom},
		{top, -1, top - 1}, {bottom, 1, bottom + 1}, {0, 0, 0}, {1, -1, 0}, {-1, -1, -2}, {3, -5, -2},
		{top - 1, 1, top}, {top - 1, 2, top}, {top - 2, 1, top - 1}, {1 << 62, 1<<62 - 1, top}, {1 << 62, 1 << 62, top},
		{bottom + 1, -1, bottom}, {bottom + 1, -2, bottom}, {bottom + 2, -1, bottom + 1}, {-1 << 62, -1 << 62, bottom}, {-1 << 62, -1<<62 - 1, bottom},
	} {
		for _, x := range [][2]int64{{c[0], c[1]}, {c[1], c[0]}} {
			if got := agg.Plus(x[0], x[1]); got != c[2] {
				t.Errorf("Plus(%d, %d) is %d, want %d", x[0], x[1], got, c[2])
			}
		}
	}
}

// P7.1: sums of all kinds, against numbers that have no end.
func TestPlus(t *testing.T) {
	for _, a := range edges() {
		for _, b := range edges() {
			checkPlus(t, a, b)
		}
	}
	n := noise(2)
	for range 20000 {
		checkPlus(t, n.number(), n.number())
	}
}

// P7.1: each bucket's ends, what lies between, and the greatest numbers of all.
func TestBucket(t *testing.T) {
	for _, c := range []struct {
		v    int64
		want int
	}{
		{bottom, 0}, {-100, 0}, {-10, 0}, {-1, 0}, {0, 1}, {1, 1}, {5, 1}, {9, 1}, {10, 2}, {11, 2}, {50, 2}, {99, 2},
		{100, 3}, {101, 3}, {1 << 32, 3}, {top, 3}, {-1 << 32, 0}, {1<<32 + 5, 3}, {-1<<32 + 5, 0},
	} {
		if got := agg.Bucket(c.v); got != c.want {
			t.Errorf("Bucket(%d) is %d, want %d", c.v, got, c.want)
		}
	}
	for v := int64(-300); v < 300; v++ {
		if got, want := agg.Bucket(v), slowBucket(v); got != want {
			t.Errorf("Bucket(%d) is %d, want %d", v, got, want)
		}
	}
}

// P7.2: the chapter's examples.
func TestOfExamples(t *testing.T) {
	for _, c := range []struct {
		list []int64
		want api.Agg
	}{
		{nil, api.Agg{}},
		{[]int64{}, api.Agg{}},
		{[]int64{5, -3, 100}, api.Agg{Count: 3, Sum: 102, Min: -3, Max: 100, Hist: [4]int64{1, 1, 0, 1}}},
		{[]int64{top, 1, -1}, api.Agg{Count: 3, Sum: top - 1, Min: -1, Max: top, Hist: [4]int64{1, 1, 0, 1}}},
		{[]int64{bottom, -1, 1}, api.Agg{Count: 3, Sum: bottom + 1, Min: bottom, Max: 1, Hist: [4]int64{2, 1, 0, 0}}},
		{[]int64{7}, api.Agg{Count: 1, Sum: 7, Min: 7, Max: 7, Hist: [4]int64{0, 1, 0, 0}}},
		{[]int64{-7}, api.Agg{Count: 1, Sum: -7, Min: -7, Max: -7, Hist: [4]int64{1, 0, 0, 0}}},
		{[]int64{0}, api.Agg{Count: 1, Hist: [4]int64{0, 1, 0, 0}}},
		{[]int64{20, 30, 10}, api.Agg{Count: 3, Sum: 60, Min: 10, Max: 30, Hist: [4]int64{0, 0, 3, 0}}},
	} {
		if got := agg.Of(c.list); got != c.want {
			t.Errorf("Of(%d) is %+v, want %+v", c.list, got, c.want)
		}
	}
}

func checkPut(t *testing.T, a api.Agg, v int64) {
	t.Helper()
	if got, want := agg.Put(a, v), slowPut(a, v); got != want {
		t.Errorf("Put(%+v, %d) is %+v, want %+v", a, v, got, want)
	}
}

// P7.2: to the zero aggregate; to one with values, below, at, between and above them.
func TestPut(t *testing.T) {
	for _, l := range [][]int64{nil, {5}, {-20, 40}, {3, 200}, {-9, -4}, {bottom, top}} {
		for _, v := range edges() {
			checkPut(t, agg.Of(l), v)
		}
	}
	for _, c := range []struct {
		v    int64
		want api.Agg
	}{
		{-30, api.Agg{Count: 3, Sum: -10, Min: -30, Max: 40, Hist: [4]int64{2, 0, 1, 0}}},
		{5, api.Agg{Count: 3, Sum: 25, Min: -20, Max: 40, Hist: [4]int64{1, 1, 1, 0}}},
		{400, api.Agg{Count: 3, Sum: 420, Min: -20, Max: 400, Hist: [4]int64{1, 0, 1, 1}}},
	} {
		if got := agg.Put(agg.Of([]int64{-20, 40}), c.v); got != c.want {
			t.Errorf("Put of %d behind -20, 40 is %+v, want %+v", c.v, got, c.want)
		}
	}
}

// P7.2: Count, Sum and each bucket are held on their own.
func TestPutIsHeld(t *testing.T) {
	for _, v := range edges() {
		for _, n := range []int64{top, top - 1, bottom, -1} {
			checkPut(t, api.Agg{Count: n, Sum: 4, Min: 1, Max: 3, Hist: [4]int64{0, n, 0, 0}}, v)
			checkPut(t, api.Agg{Count: 2, Sum: n, Min: 1, Max: 3, Hist: [4]int64{n, 2, 0, n}}, v)
			checkPut(t, api.Agg{Count: 2, Sum: 4, Min: n, Max: n, Hist: [4]int64{0, 2, n, 0}}, v)
		}
	}
	full := api.Agg{Count: top, Sum: top, Min: 1, Max: 100, Hist: [4]int64{0, top, 0, 1}}
	want := full
	if got := agg.Put(full, 9); got != want {
		t.Errorf("a full one with one more value is %+v", got)
	}
	want.Hist[3] = 2
	if got := agg.Put(full, 100); got != want {
		t.Errorf("a full one with one more value of another bucket is %+v", got)
	}
}

// P7.2: any aggregate and any value; where Count was 0, Min and Max are the value,
// whatever they were.
func TestPutToAny(t *testing.T) {
	n := noise(3)
	for range 20000 {
		checkPut(t, n.agg(), n.number())
	}
	got := agg.Put(api.Agg{Sum: 3, Min: -50, Max: 50, Hist: [4]int64{1, 2, 3, 4}}, 7)
	if want := (api.Agg{Count: 1, Sum: 10, Min: 7, Max: 7, Hist: [4]int64{1, 3, 3, 4}}); got != want {
		t.Errorf("Put to one of the Count 0 is %+v, want %+v", got, want)
	}
}

// P7.2: Of is Put of all of them, one behind the other.
func TestOfIsPutOfAll(t *testing.T) {
	for _, l := range lists() {
		var by, slow api.Agg
		for i, v := range l {
			by, slow = agg.Put(by, v), slowPut(slow, v)
			if got := agg.Of(l[:i+1]); got != by || got != slow {
				t.Errorf("Of(%d) is %+v, by Put %+v, by the chapter's words %+v", l[:i+1], got, by, slow)
			}
		}
	}
}

// P7.2: a list that is handed in stays as it was, its spare room too.
func TestOfLeavesItsList(t *testing.T) {
	for _, l := range lists() {
		room := append(slices.Clone(l), 11, -12, 13)
		before := slices.Clone(room)
		agg.Of(room[:len(l)])
		if !slices.Equal(room, before) {
			t.Errorf("Of(%d) left %d", before, room)
		}
	}
}

func checkJoin(t *testing.T, a, b api.Agg) {
	t.Helper()
	if got, want := agg.Join(a, b), slowJoin(a, b); got != want {
		t.Errorf("Join(%+v, %+v) is %+v, want %+v", a, b, got, want)
	}
}

// P7.3: the chapter's example; two with values, one with and one without in either row,
// two without.
func TestJoin(t *testing.T) {
	seven := api.Agg{Count: 1, Sum: 7, Min: 7, Max: 7, Hist: [4]int64{0, 1, 0, 0}}
	minus := agg.Of([]int64{-4, -2})
	for _, c := range []struct{ a, b, want api.Agg }{
		{api.Agg{}, seven, seven},
		{seven, api.Agg{}, seven},
		{minus, api.Agg{}, minus},
		{api.Agg{}, minus, minus},
		{api.Agg{}, api.Agg{}, api.Agg{}},
		{seven, seven, api.Agg{Count: 2, Sum: 14, Min: 7, Max: 7, Hist: [4]int64{0, 2, 0, 0}}},
		{seven, minus, api.Agg{Count: 3, Sum: 1, Min: -4, Max: 7, Hist: [4]int64{2, 1, 0, 0}}},
		{minus, seven, api.Agg{Count: 3, Sum: 1, Min: -4, Max: 7, Hist: [4]int64{2, 1, 0, 0}}},
		{agg.Of([]int64{1, 100}), agg.Of([]int64{20, 30}), api.Agg{Count: 4, Sum: 151, Min: 1, Max: 100, Hist: [4]int64{0, 1, 2, 1}}},
	} {
		if got := agg.Join(c.a, c.b); got != c.want {
			t.Errorf("Join(%+v, %+v) is %+v, want %+v", c.a, c.b, got, c.want)
		}
	}
}

// P7.3: Count, Sum and each bucket are held on their own.
func TestJoinIsHeld(t *testing.T) {
	a := api.Agg{Count: top, Sum: bottom, Min: -9, Max: 9, Hist: [4]int64{top, top - 1, 1 << 62, 0}}
	b := api.Agg{Count: 1, Sum: -1, Min: -1, Max: 200, Hist: [4]int64{1, 1, 1 << 62, top}}
	want := api.Agg{Count: top, Sum: bottom, Min: -9, Max: 200, Hist: [4]int64{top, top, top, top}}
	if got := agg.Join(a, b); got != want {
		t.Errorf("Join is %+v, want %+v", got, want)
	}
	if got := agg.Join(b, a); got != want {
		t.Errorf("Join the other way about is %+v, want %+v", got, want)
	}
	for _, v := range edges() {
		for _, w := range edges() {
			checkJoin(t, api.Agg{Count: v, Sum: w, Min: v, Max: w, Hist: [4]int64{v, w, v, w}}, api.Agg{Count: w, Sum: w, Min: w, Max: v, Hist: [4]int64{v, w, w, v}})
		}
	}
}

// P7.3: Min and Max of one whose Count is 0 don't count, whatever they are.
func TestJoinOfNoValues(t *testing.T) {
	none := api.Agg{Sum: 2, Min: -500, Max: 500, Hist: [4]int64{1, 0, 0, 1}}
	some := agg.Of([]int64{3, 4})
	want := api.Agg{Count: 2, Sum: 9, Min: 3, Max: 4, Hist: [4]int64{1, 2, 0, 1}}
	if got := agg.Join(none, some); got != want {
		t.Errorf("Join(%+v, %+v) is %+v, want %+v", none, some, got, want)
	}
	if got := agg.Join(some, none); got != want {
		t.Errorf("Join(%+v, %+v) is %+v, want %+v", some, none, got, want)
	}
	want = api.Agg{Sum: 4, Hist: [4]int64{2, 0, 0, 2}}
	if got := agg.Join(none, none); got != want {
		t.Errorf("Join of two without values is %+v, want %+v", got, want)
	}
}

// P7.3: any two aggregates, wrong ones too.
func TestJoinOfAny(t *testing.T) {
	n := noise(4)
	for range 20000 {
		checkJoin(t, n.agg(), n.agg())
	}
}

// P7.4: aggregates that are right, at the edges too.
func TestRight(t *testing.T) {
	for _, a := range []api.Agg{
		{},
		agg.Of([]int64{5, -3, 100}),
		{Count: 1, Hist: [4]int64{0, 1, 0, 0}},
		{Count: 2, Sum: 77, Min: 10, Max: 99, Hist: [4]int64{0, 0, 2, 0}},
		{Count: 2, Sum: bottom, Min: -1, Max: 100, Hist: [4]int64{1, 0, 0, 1}},
		{Count: top, Sum: top, Min: -1, Max: 9, Hist: [4]int64{1 << 62, 1 << 62, 0, 0}},
		{Count: top, Sum: top, Min: -1, Max: 9, Hist: [4]int64{top - 1, 1, 0, 0}},
		{Count: top, Sum: top, Min: -1, Max: 9, Hist: [4]int64{top - 1, top - 1, 0, 0}},
		{Count: top - 1, Sum: 1, Min: bottom, Max: top, Hist: [4]int64{1, 1 << 62, 1<<62 - 4, 1}},
	} {
		if !agg.Right(a) {
			t.Errorf("%+v is right, and is told wrong", a)
		}
	}
}

// P7.4: aggregates that are wrong in one thing each.
func TestWrong(t *testing.T) {
	for _, a := range []api.Agg{
		{Count: -1},
		{Count: -1, Hist: [4]int64{0, -1, 0, 0}},
		{Count: bottom, Hist: [4]int64{0, 1, 0, 0}},
		{Count: 1, Hist: [4]int64{-1, 2, 0, 0}},
		{Count: 1, Hist: [4]int64{0, 2, -1, 0}},
		{Count: 1, Hist: [4]int64{0, 2, 0, -1}},
		{Count: 1, Min: -1, Max: 100, Hist: [4]int64{1, -1, 0, 1}},
		{Sum: 1}, {Min: 1, Max: 1}, {Min: -1}, {Max: 1}, {Max: -1, Min: -1},
		{Hist: [4]int64{1}}, {Hist: [4]int64{0, 1}}, {Hist: [4]int64{0, 0, 1}}, {Hist: [4]int64{0, 0, 0, 1}},
		{Hist: [4]int64{1, -1}},
		{Count: 1},
		{Count: 2, Min: 5, Max: 4, Hist: [4]int64{0, 2, 0, 0}},
		{Count: 2, Min: 5, Max: 5, Hist: [4]int64{0, 1, 0, 0}},
		{Count: 2, Min: 5, Max: 5, Hist: [4]int64{0, 3, 0, 0}},
		{Count: top - 1, Min: -1, Max: 9, Hist: [4]int64{1 << 62, 1 << 62, 0, 0}},
		{Count: top - 2, Min: -1, Max: 9, Hist: [4]int64{top - 1, top - 1, 0, 0}},
		{Count: 2, Min: -1, Max: 50, Hist: [4]int64{0, 1, 1, 0}},
		{Count: 2, Min: 10, Max: 50, Hist: [4]int64{0, 1, 1, 0}},
		{Count: 2, Min: 0, Max: 9, Hist: [4]int64{0, 1, 1, 0}},
		{Count: 2, Min: 0, Max: 100, Hist: [4]int64{0, 1, 1, 0}},
		{Count: 1, Min: 9, Max: 9, Hist: [4]int64{0, 0, 1, 0}},
		{Count: 1, Min: 100, Max: 100, Hist: [4]int64{0, 0, 1, 0}},
		{Count: 3, Min: -1, Max: 100, Hist: [4]int64{0, 3, 0, 0}},
	} {
		if agg.Right(a) {
			t.Errorf("%+v is wrong, and is told right", a)
		}
	}
}

// P7.4: with a bucket of 2^63 - 1 the buckets are not held against the rest; all else
// is asked all the same.
func TestRightWithAFullBucket(t *testing.T) {
	for i := range 4 {
		hist := [4]int64{1, 1, 1, 1}
		hist[i] = top
		below := hist
		below[(i+1)%4] = -1
		for _, c := range []struct {
			a    api.Agg
			want bool
		}{
			{api.Agg{Count: top, Sum: 3, Min: -1, Max: 100, Hist: hist}, true},
			{api.Agg{Count: 1, Sum: 3, Min: 20, Max: 20, Hist: hist}, true},
			{api.Agg{Count: top - 1, Sum: 3, Min: -1, Max: -1, Hist: hist}, true},
			{api.Agg{Count: top, Sum: 3, Min: 6, Max: 5, Hist: hist}, false},
			{api.Agg{Count: -1, Sum: 3, Min: -1, Max: 100, Hist: hist}, false},
			{api.Agg{Count: top, Sum: 3, Min: -1, Max: 100, Hist: below}, false},
			{api.Agg{Hist: hist}, false},
		} {
			if got := agg.Right(c.a); got != c.want {
				t.Errorf("Right(%+v) is %v", c.a, got)
			}
			c.a.Hist[i]--
			if got, want := agg.Right(c.a), slowRight(c.a); got != want {
				t.Errorf("Right(%+v) is %v", c.a, got)
			}
		}
	}
}

// P7.4: any aggregate, and those of Of with one field changed a little.
func TestRightOfAny(t *testing.T) {
	n := noise(5)
	told := map[bool]int{}
	check := func(a api.Agg) {
		want := slowRight(a)
		told[want]++
		if got := agg.Right(a); got != want {
			t.Errorf("Right(%+v) is %v", a, got)
		}
	}
	for range 20000 {
		check(n.agg())
	}
	for _, l := range lists() {
		for _, by := range []int64{-1, 1, 10, -10, 100, -100} {
			a := agg.Of(l)
			for _, field := range []*int64{&a.Count, &a.Sum, &a.Min, &a.Max, &a.Hist[0], &a.Hist[1], &a.Hist[2], &a.Hist[3]} {
				*field += by
				check(a)
				*field -= by
			}
		}
	}
	if told[true] < 1000 || told[false] < 1000 {
		t.Errorf("%v: the test tells too little", told)
	}
}

// P7.5: Of of any list is right.
func TestOfIsRight(t *testing.T) {
	for _, l := range lists() {
		if a := agg.Of(l); !agg.Right(a) {
			t.Errorf("Of(%d) is %+v, which is told wrong", l, a)
		}
	}
}

// turned is a list in another row.
func turned(l []int64, n *noise) []int64 {
	r := slices.Clone(l)
	for i := len(r) - 1; i > 0; i-- {
		k := n.below(i + 1)
		r[i], r[k] = r[k], r[i]
	}
	return r
}

// rowless is an aggregate without what may hang on the row.
func rowless(a api.Agg) api.Agg {
	a.Sum = 0
	return a
}

// P7.5: Count, Min, Max and Hist hang on the values alone.
func TestTheRowDoesNotCount(t *testing.T) {
	n := noise(6)
	for _, l := range lists() {
		want := agg.Of(l)
		for range 10 {
			r := turned(l, &n)
			if got := agg.Of(r); rowless(got) != rowless(want) {
				t.Errorf("Of(%d) is %+v, Of(%d) is %+v", l, want, r, got)
			}
		}
	}
}

// P7.5: Sum does not hang on the row, if all lies within; where it is held, it does.
func TestTheRowOfASum(t *testing.T) {
	n := noise(7)
	for range 200 {
		l := make([]int64, n.below(16))
		for i := range l {
			l[i] = int64(n.next()) >> 5
		}
		want := agg.Of(l)
		if got := agg.Of(turned(l, &n)); got != want {
			t.Errorf("Of(%d) is %+v, in another row %+v", l, want, got)
		}
	}
	for _, c := range []struct {
		list []int64
		sum  int64
	}{{[]int64{top, 1, -1}, top - 1}, {[]int64{top, -1, 1}, top}, {[]int64{bottom, -1, 1}, bottom + 1}, {[]int64{bottom, 1, -1}, bottom}} {
		if got := agg.Of(c.list).Sum; got != c.sum {
			t.Errorf("the Sum of %d is %d, want %d", c.list, got, c.sum)
		}
	}
}

// P7.5: Join of two lists' Of's is Of of both lists, wherever a list is cut, but for Sum; Sum too,
// if all lies within.
func TestJoinOfOfs(t *testing.T) {
	for _, l := range lists() {
		whole := agg.Of(l)
		for cut := range len(l) + 1 {
			got := agg.Join(agg.Of(l[:cut]), agg.Of(l[cut:]))
			if rowless(got) != rowless(whole) || within(l) && got != whole {
				t.Errorf("Of(%d) is %+v, cut at %d %+v", l, whole, cut, got)
			}
			if !agg.Right(got) {
				t.Errorf("Of(%d), cut at %d, is %+v, which is told wrong", l, cut, got)
			}
		}
	}
	if got := agg.Join(agg.Of([]int64{20, -5}), agg.Of([]int64{100, 3})); got != agg.Of([]int64{20, -5, 100, 3}) {
		t.Errorf("Join is %+v", got)
	}
}

// within says whether no sum of values of a list, in whatever row, is held.
func within(l []int64) bool {
	size := new(big.Int)
	for _, v := range l {
		size.Add(size, new(big.Int).Abs(big.NewInt(v)))
	}
	return size.IsInt64()
}
