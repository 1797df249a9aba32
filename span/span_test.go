package span_test

import (
	"iter"
	"math"
	"math/big"
	"slices"
	"strconv"
	"testing"

	"meter/api"
	"meter/span"
)

const (
	top    = math.MaxInt64
	bottom = math.MinInt64
	// last is the last moment.
	last = int64(1) << 40
)

// slowRight is the chapter's words on what a moment is, in numbers that have no end.
func slowRight(at int64) bool {
	x := big.NewInt(at)
	return x.Sign() >= 0 && x.Cmp(new(big.Int).Exp(big.NewInt(2), big.NewInt(40), nil)) <= 0
}

// slowStart writes a moment's last digit over by a 0, as a window has ten moments.
func slowStart(at int64) int64 {
	if !slowRight(at) {
		return -1
	}
	digits := []byte(strconv.FormatInt(at, 10))
	digits[len(digits)-1] = '0'
	start, _ := strconv.ParseInt(string(digits), 10, 64)
	return start
}

func slowEnd(start int64) int64 {
	digits := strconv.FormatInt(start, 10)
	if !slowRight(start) || digits[len(digits)-1] != '0' {
		return -1
	}
	return start + 10
}

// slowOver counts from the mark back: Grace and the window's Width.
func slowOver(start, mark int64) bool {
	if slowEnd(start) == -1 || !slowRight(mark) {
		return false
	}
	back := new(big.Int).Sub(big.NewInt(mark), big.NewInt(15))
	return back.Cmp(big.NewInt(start)) >= 0
}

func slowLate(at, mark int64) bool {
	return slowRight(at) && slowRight(mark) && slowOver(slowStart(at), mark)
}

// slowStarts asks window by window, from far enough below since on.
func slowStarts(mark, since int64) []int64 {
	var l []int64
	if !slowRight(mark) || !slowRight(since) || mark < since {
		return l
	}
	for start := slowStart(max(since-200, 0)); start <= mark && len(l) < 1000; start += 10 {
		if slowOver(start, mark) && !slowOver(start, since) {
			l = append(l, start)
		}
	}
	return l
}

// noise is a row of numbers that look like chance and are the same each time.
type noise uint64

func (n *noise) next() uint64 {
	*n += 0x9e3779b97f4a7c15
	z := uint64(*n)
	z = (z ^ z>>30) * 0xbf58476d1ce4e5b9
	z = (z ^ z>>27) * 0x94d049bb133111eb
	return z ^ z>>31
}

func (n *noise) below(end int64) int64 { return int64(n.next() % uint64(end)) }

// moment is small, great or any one.
func (n *noise) moment() int64 {
	switch n.below(3) {
	case 0:
		return n.below(200)
	case 1:
		return last - n.below(200)
	}
	return n.below(last + 1)
}

// number is a moment, near one or of any size.
func (n *noise) number() int64 {
	switch n.below(4) {
	case 0:
		return n.moment()
	case 1:
		return n.below(60) - 30
	case 2:
		return last + n.below(60) - 30
	}
	return int64(n.next()) >> n.below(64)
}

// numbers are what lies about both ends of the moments and of int64, and between.
func numbers() []int64 {
	l := []int64{
		bottom, bottom + 1, bottom + 5, bottom + 8, bottom + 10, bottom + 15, bottom + 18, -1 << 41, -1 << 40, -1 << 32, -1 << 31,
		1 << 31, 1<<31 - 1, 1 << 32, 1<<32 + 10, 1 << 39, 1 << 41, 1<<41 + 8, 1 << 62, 2_000_000_000_000, 500_000_000_000,
		top - 27, top - 17, top - 15, top - 10, top - 7, top - 5, top - 1, top,
	}
	for k := int64(-45); k <= 45; k++ {
		l = append(l, k, 123450+k, last+k)
	}
	return l
}

// collect is what a way tells, and not much more than it may: a way without an end would
// fill all room otherwise.
func collect(seq iter.Seq[int64]) []int64 {
	var l []int64
	for start := range seq {
		l = append(l, start)
		if len(l) == 1100 {
			break
		}
	}
	return l
}

// P8.1: the chapter's examples, and what was worked out beforehand.
func TestExamplesOfWindows(t *testing.T) {
	for _, c := range []struct {
		at         int64
		right      bool
		start, end int64
	}{
		{-1, false, -1, -1}, {0, true, 0, 10}, {9, true, 0, -1}, {10, true, 10, 20}, {11, true, 10, -1}, {19, true, 10, -1}, {20, true, 20, 30},
		{-10, false, -1, -1}, {-9, false, -1, -1}, {-20, false, -1, -1}, {1, true, 0, -1}, {13, true, 10, -1},
		{last, true, last - 6, -1}, {last - 1, true, last - 6, -1}, {last - 6, true, last - 6, last + 4}, {last - 7, true, last - 16, -1},
		{last - 16, true, last - 16, last - 6}, {last + 1, false, -1, -1}, {last + 4, false, -1, -1}, {last + 14, false, -1, -1},
		{top, false, -1, -1}, {top - 7, false, -1, -1}, {bottom, false, -1, -1}, {bottom + 8, false, -1, -1},
		{1 << 39, true, 1<<39 - 8, -1}, {500_000_000_000, true, 500_000_000_000, 500_000_000_010}, {499_999_999_999, true, 499_999_999_990, -1},
		{1 << 32, true, 1<<32 - 6, -1}, {1<<32 + 4, true, 1<<32 + 4, 1<<32 + 14},
	} {
		if right, start, end := span.Right(c.at), span.Start(c.at), span.End(c.at); right != c.right || start != c.start || end != c.end {
			t.Errorf("Right, Start, End of %d are %v, %d, %d, want %v, %d, %d", c.at, right, start, end, c.right, c.start, c.end)
		}
	}
}

func checkWindow(t *testing.T, at int64) {
	t.Helper()
	if got, want := span.Right(at), slowRight(at); got != want {
		t.Errorf("Right(%d) is %v, want %v", at, got, want)
	}
	if got, want := span.Start(at), slowStart(at); got != want {
		t.Errorf("Start(%d) is %d, want %d", at, got, want)
	}
	if got, want := span.End(at), slowEnd(at); got != want {
		t.Errorf("End(%d) is %d, want %d", at, got, want)
	}
}

// P8.1: numbers of all kinds, moments and others.
func TestWindows(t *testing.T) {
	for _, at := range numbers() {
		checkWindow(t, at)
	}
	n := noise(1)
	for range 20000 {
		at := n.number()
		checkWindow(t, at)
		checkWindow(t, at-at%10)
	}
}

// P8.2: the chapter's examples, and what was worked out beforehand at both ends.
func TestExamplesOfOver(t *testing.T) {
	for _, c := range []struct {
		start, mark int64
		want        bool
	}{
		{0, 14, false}, {0, 15, true}, {0, 16, true}, {0, 0, false}, {0, -1, false}, {0, last, true}, {0, last + 1, false}, {0, top, false}, {0, bottom, false},
		{10, 24, false}, {10, 25, true}, {10, 26, true}, {10, 15, false},
		{-10, 100, false}, {-10, 5, false}, {-1, 100, false}, {1, 100, false}, {9, 100, false}, {11, 100, false}, {5, 15, false}, {bottom + 8, 100, false}, {bottom, bottom, false},
		{last - 16, last - 2, false}, {last - 16, last - 1, true}, {last - 16, last, true}, {last - 16, last + 1, false},
		{last - 6, last, false}, {last - 6, last + 8, false}, {last - 6, last + 9, false}, {last - 6, top, false}, {last, last, false},
		{last + 4, top, false}, {top - 7, top, false}, {top - 7, bottom, false}, {top, bottom, false},
	} {
		if got := span.Over(c.start, c.mark); got != c.want {
			t.Errorf("Over(%d, %d) is %v", c.start, c.mark, got)
		}
	}
}

// P8.2: the chapter's examples, and what was worked out beforehand at both ends.
func TestExamplesOfLate(t *testing.T) {
	for _, c := range []struct {
		at, mark int64
		want     bool
	}{
		{9, 15, true}, {9, 14, false}, {9, 16, true}, {0, 14, false}, {0, 15, true}, {1, 15, true}, {10, 15, false}, {10, 24, false}, {10, 25, true}, {19, 24, false}, {19, 25, true}, {13, 24, false}, {13, 25, true},
		{20, 25, false}, {30, 25, false}, {0, 0, false}, {5, last, true}, {5, last + 1, false}, {5, -1, false}, {5, top, false}, {5, bottom, false},
		{-1, 100, false}, {-1, 14, false}, {-10, 100, false}, {bottom, 100, false}, {last + 1, last, false}, {top, last, false}, {top, top, false}, {bottom, bottom, false},
		{last, last, false}, {last - 6, last, false}, {last - 7, last, true}, {last - 7, last - 1, true}, {last - 7, last - 2, false}, {last - 16, last - 1, true}, {last - 17, last - 2, true}, {last - 16, last + 1, false},
	} {
		if got := span.Late(c.at, c.mark); got != c.want {
			t.Errorf("Late(%d, %d) is %v", c.at, c.mark, got)
		}
	}
}

func checkOver(t *testing.T, at, mark int64) {
	t.Helper()
	if got, want := span.Over(at, mark), slowOver(at, mark); got != want {
		t.Errorf("Over(%d, %d) is %v, want %v", at, mark, got, want)
	}
	if got, want := span.Late(at, mark), slowLate(at, mark); got != want {
		t.Errorf("Late(%d, %d) is %v, want %v", at, mark, got, want)
	}
}

// P8.2: numbers of all kinds, each with each; any two; and those that lie close together.
func TestOverAndLate(t *testing.T) {
	for _, at := range numbers() {
		for _, mark := range numbers() {
			checkOver(t, at, mark)
		}
	}
	n := noise(2)
	for range 20000 {
		at := n.number()
		checkOver(t, at, n.number())
		checkOver(t, at-at%10, n.number())
		at = n.moment()
		checkOver(t, at-at%10, at+n.below(40)-5)
		checkOver(t, at, at+n.below(40)-5)
	}
}

// P8.3: the chapter's example, and what was worked out beforehand.
func TestExamplesOfStarts(t *testing.T) {
	for _, c := range []struct {
		mark, since int64
		want        []int64
	}{
		{36, 14, []int64{0, 10, 20}},
		{35, 14, []int64{0, 10, 20}},
		{34, 14, []int64{0, 10}},
		{36, 15, []int64{10, 20}},
		{36, 0, []int64{0, 10, 20}},
		{36, 24, []int64{10, 20}},
		{36, 25, []int64{20}},
		{36, 34, []int64{20}},
		{36, 35, nil},
		{36, 36, nil},
		{15, 14, []int64{0}},
		{15, 0, []int64{0}},
		{14, 0, nil},
		{14, 13, nil},
		{15, 15, nil},
		{0, 0, nil},
		{14, 36, nil},
		{35, 36, nil},
		{0, last, nil},
		{last, last, nil},
		{last, last - 1, nil},
		{last, last - 2, []int64{last - 16}},
		{last - 1, last - 2, []int64{last - 16}},
		{last - 2, last - 3, nil},
		{last, last - 11, []int64{last - 16}},
		{last, last - 12, []int64{last - 26, last - 16}},
		{-1, -1, nil}, {-1, 0, nil}, {100, -1, nil}, {100, -6, nil}, {100, bottom, nil}, {bottom, 100, nil}, {bottom, bottom, nil},
		{last + 1, last - 40, nil}, {last + 1, last + 1, nil}, {last + 40, last + 1, nil}, {last, last + 1, nil}, {top, 0, nil}, {top, top - 100, nil}, {top, top, nil}, {100, top, nil}, {top, bottom, nil}, {bottom, top, nil},
	} {
		if got := collect(span.Starts(c.mark, c.since)); !slices.Equal(got, c.want) {
			t.Errorf("Starts(%d, %d) are %d, want %d", c.mark, c.since, got, c.want)
		}
	}
}

// P8.3: there are at most 1000, and these are the first ones.
func TestStartsOfManyWindows(t *testing.T) {
	for _, c := range []struct {
		mark, since int64
		count       int
		from        int64
	}{
		{9994, 0, 998, 0}, {9995, 0, 999, 0}, {10004, 0, 999, 0}, {10005, 0, 1000, 0}, {10014, 0, 1000, 0}, {10015, 0, 1000, 0}, {10016, 0, 1000, 0}, {20000, 14, 1000, 0},
		{10015, 15, 1000, 10}, {10024, 15, 1000, 10}, {10025, 15, 1000, 10}, {10014, 15, 999, 10},
		{last, 0, 1000, 0}, {last, 15, 1000, 10}, {last, 1 << 39, 1000, 1<<39 - 8},
		{last, last - 10001, 1000, last - 10006}, {last, last - 10002, 1000, last - 10016}, {last, last - 10003, 1000, last - 10016}, {last, last - 9992, 1000, last - 10006}, {last, last - 9991, 999, last - 9996},
	} {
		got := collect(span.Starts(c.mark, c.since))
		var want []int64
		for i := range c.count {
			want = append(want, c.from+int64(i)*10)
		}
		if !slices.Equal(got, want) {
			t.Errorf("Starts(%d, %d) are %d of them, want %d from %d on", c.mark, c.since, len(got), c.count, c.from)
		}
	}
}

func checkStarts(t *testing.T, mark, since int64) {
	t.Helper()
	if got, want := collect(span.Starts(mark, since)), slowStarts(mark, since); !slices.Equal(got, want) {
		t.Errorf("Starts(%d, %d) are %d, want %d", mark, since, got, want)
	}
}

// P8.3: numbers of all kinds, and any two.
func TestStarts(t *testing.T) {
	for _, mark := range numbers() {
		for _, since := range numbers() {
			// Marks far apart have a thousand windows each time: few of them will do.
			if mark < since || mark-since < 100 || mark%7 == 0 && since%7 == 0 {
				checkStarts(t, mark, since)
			}
		}
	}
	n := noise(3)
	for range 1000 {
		checkStarts(t, n.number(), n.number())
		mark := n.moment()
		checkStarts(t, mark, mark-n.below(300))
		checkStarts(t, mark, mark+n.below(30))
	}
	for range 100 {
		mark := n.moment()
		checkStarts(t, mark, mark-n.below(20000))
	}
}

// P8.3: they rise; each is over at mark and was not at since; of all windows that are so
// none is left out, nor is one behind the thousandth told.
func TestStartsAreThoseThatAreOverSince(t *testing.T) {
	n := noise(4)
	for range 500 {
		since := n.moment()
		mark := min(since+n.below(12000), last)
		got := collect(span.Starts(mark, since))
		told := map[int64]int{}
		for i, start := range got {
			told[start]++
			if i > 0 && start <= got[i-1] {
				t.Fatalf("Starts(%d, %d): %d behind %d", mark, since, start, got[i-1])
			}
			if !span.Over(start, mark) || span.Over(start, since) {
				t.Fatalf("Starts(%d, %d): %d is among them", mark, since, start)
			}
		}
		for start := span.Start(max(since-100, 0)); start <= mark; start += 10 {
			is := span.Over(start, mark) && !span.Over(start, since)
			late := len(got) == 1000 && start > got[999]
			if want := is && !late; want != (told[start] == 1) {
				t.Fatalf("Starts(%d, %d): of %d it is told %v", mark, since, start, !want)
			}
		}
	}
}

// P8.3: the marks on a way from 0 up tell each window once, one behind the other.
func TestStartsOnAWay(t *testing.T) {
	for _, from := range []int64{0, last - 3000} {
		n := noise(5)
		var got []int64
		since := from
		for since < from+2900 {
			mark := since + n.below(50)
			got = append(got, collect(span.Starts(mark, since))...)
			since = mark
		}
		if want := collect(span.Starts(since, from)); !slices.Equal(got, want) || len(got) < 200 {
			t.Errorf("from %d to %d: %d, want %d", from, since, got, want)
		}
	}
}

// P8.3: it may be left at any place, and nothing more is told then.
func TestStartsIsLeftEarly(t *testing.T) {
	for _, c := range [][2]int64{{36, 14}, {15, 14}, {1000, 3}, {last, last - 300}, {last, 0}} {
		seq := span.Starts(c[0], c[1])
		whole := collect(seq)
		for cut := range len(whole) {
			var got []int64
			for start := range seq {
				got = append(got, start)
				if len(got) == cut+1 {
					break
				}
			}
			if !slices.Equal(got, whole[:cut+1]) {
				t.Fatalf("Starts(%d, %d), left at %d, are %d", c[0], c[1], cut, got)
			}
		}
		calls := 0
		seq(func(int64) bool { calls++; return false })
		if calls != 1 {
			t.Errorf("Starts(%d, %d) went on %d times when it was left", c[0], c[1], calls)
		}
	}
}

// P8.3: it may be gone over again, behind one that was left and within another.
func TestStartsIsGoneOverAgain(t *testing.T) {
	for _, c := range [][2]int64{{36, 14}, {15, 15}, {300, 3}, {last, last - 300}} {
		seq := span.Starts(c[0], c[1])
		want := slowStarts(c[0], c[1])
		var outer []int64
		for start := range seq {
			outer = append(outer, start)
			if inner := collect(seq); !slices.Equal(inner, want) {
				t.Fatalf("Starts(%d, %d) within another are %d, want %d", c[0], c[1], inner, want)
			}
			for range seq {
				break
			}
		}
		if !slices.Equal(outer, want) || !slices.Equal(collect(seq), want) {
			t.Errorf("Starts(%d, %d) again are not %d", c[0], c[1], want)
		}
	}
}

// P8.4: each moment lies in just one window.
func TestAMomentLiesInOneWindow(t *testing.T) {
	n := noise(6)
	check := func(at int64) {
		in := 0
		for start := at - 25; start <= at+25; start++ {
			if end := span.End(start); end != -1 && start <= at && at < end {
				in++
				if span.Start(at) != start {
					t.Errorf("%d lies in the window from %d, and Start is %d", at, start, span.Start(at))
				}
			}
		}
		if in != 1 {
			t.Errorf("%d lies in %d windows", at, in)
		}
	}
	for range 2000 {
		check(n.moment())
	}
	for k := range int64(30) {
		check(k)
		check(last - k)
	}
}

// P8.4: what is over stays so, as marks rise; so does what is late.
func TestOverStays(t *testing.T) {
	for _, from := range []int64{0, 12340, last - 120} {
		for start := from - from%10; start <= min(from+120, last); start += 10 {
			over := false
			for mark := from; mark <= min(from+120, last); mark++ {
				now := span.Over(start, mark)
				if over && !now {
					t.Errorf("the window from %d is over, and is not at %d", start, mark)
				}
				over = now
				if span.Late(start, mark) != now || span.Right(start+9) && span.Late(start+9, mark) != now {
					t.Errorf("the window from %d and its moments differ at %d", start, mark)
				}
			}
		}
	}
	n := noise(7)
	for range 20000 {
		at, mark, more := n.moment(), n.moment(), n.moment()
		if span.Late(at, min(mark, more)) && !span.Late(at, max(mark, more)) {
			t.Errorf("%d is late at %d, not at %d", at, min(mark, more), max(mark, more))
		}
	}
}

// P8.4: windows are over in the row of their Starts, and no two at one mark for the
// first time.
func TestWindowsAreOverInTheirRow(t *testing.T) {
	n := noise(8)
	for range 20000 {
		mark := n.moment()
		a := span.Start(min(max(mark+n.below(80)-60, 0), last))
		b := span.Start(n.moment())
		if span.Over(max(a, b), mark) && !span.Over(min(a, b), mark) {
			t.Errorf("at %d the window from %d is over, that from %d is not", mark, max(a, b), min(a, b))
		}
	}
	for mark := int64(1); mark < 3000; mark++ {
		if l := collect(span.Starts(mark, mark-1)); len(l) > 1 || len(l) == 1 && l[0] != mark-15 {
			t.Errorf("at %d these are over: %d", mark, l)
		}
	}
}

// P8.4: a moment that is not late lies no more than Width + Grace behind the mark.
func TestWhatIsNotLateLiesClose(t *testing.T) {
	n := noise(9)
	late := 0
	for range 20000 {
		mark := n.moment()
		at := min(max(mark+n.below(60)-50, 0), last)
		if !span.Late(at, mark) && mark-at > api.Width+api.Grace {
			t.Errorf("%d is not late at %d", at, mark)
		}
		if span.Late(at, mark) {
			late++
			if mark-at <= api.Grace {
				t.Errorf("%d is late at %d", at, mark)
			}
		}
	}
	if late < 1000 {
		t.Errorf("%d were late: the test tells too little", late)
	}
}
