package pack

import (
	"encoding/binary"
	"math"
	"math/big"
	"slices"
	"strings"
	"testing"

	"meter/api"
)

// noise is a row of numbers that look like chance and are the same each time.
type noise uint64

func (n *noise) next() uint64 {
	*n += 0x9e3779b97f4a7c15
	z := uint64(*n)
	z = (z ^ z>>30) * 0xbf58476d1ce4e5b9
	z = (z ^ z>>27) * 0x94d049bb133111eb
	return z ^ z>>31
}

func (n *noise) below(bound int) int {
	return int(n.next() % uint64(bound))
}

// number is of any count of bits, so that short ones come as often as long ones.
func (n *noise) number() uint64 {
	return n.next() >> n.below(64)
}

func (n *noise) text(length int) string {
	b := make([]byte, length)
	for i := range b {
		b[i] = byte(n.next())
		if n.below(3) == 0 {
			b[i] &= 3
		}
	}
	return string(b)
}

// written is what an Out holds to which that was done.
func written(do func(o *Out)) string {
	var o Out
	do(&o)
	return o.String()
}

// checkFault holds a reader's fault, End and Left against what is wanted at a fault.
func checkFault(t *testing.T, x *In, e api.Errno, at, left int) {
	t.Helper()
	gotE, gotAt := x.Fault()
	if gotE != e || gotAt != at || x.End() != e || x.Left() != left {
		t.Errorf("Fault is %d at %d, End %d, Left %d; want %d at %d, Left %d", gotE, gotAt, x.End(), x.Left(), e, at, left)
	}
}

// checkNoFault is for a reader without a fault that has that many bytes left.
func checkNoFault(t *testing.T, x *In, left int) {
	t.Helper()
	end := api.OK
	if left > 0 {
		end = api.ErrForm
	}
	e, at := x.Fault()
	if e != api.OK || at != 0 || x.End() != end || x.Left() != left {
		t.Errorf("Fault is %d at %d, End %d, Left %d; want no fault, Left %d", e, at, x.End(), x.Left(), left)
	}
}

// edges are the numbers around each power of two: among them the least and the
// greatest of each count of bytes.
func edges() []uint64 {
	list := []uint64{0, math.MaxUint64}
	for bit := range 64 {
		p := uint64(1) << bit
		list = append(list, p-1, p, p+1)
	}
	n := noise(1)
	for range 500 {
		list = append(list, n.number())
	}
	return list
}

// integers are of either sign, with the least and the greatest.
func integers() []int64 {
	list := []int64{0, 1, -1, 64, -64, -65, math.MaxInt64, math.MinInt64, math.MinInt64 + 1}
	for _, n := range edges() {
		list = append(list, int64(n), -int64(n))
	}
	return list
}

func texts() []string {
	n := noise(2)
	list := []string{"", "\x00", "\x80", "a", "ab", "not UTF-8: \xc3\x28 \x80", "gr\u00fc\u00dfe", strings.Repeat("x", 127), strings.Repeat("x", 128), strings.Repeat("\xff", 16383), strings.Repeat("\x00", 16384)}
	for length := range 20 {
		list = append(list, n.text(length))
	}
	return list
}

// P2.1: the chapter's examples, each alone and one behind the other.
func TestWriteExamples(t *testing.T) {
	var all Out
	want := ""
	for _, c := range []struct {
		name string
		do   func(o *Out)
		want string
	}{
		{"Num(0)", func(o *Out) { o.Num(0) }, "\x00"},
		{"Num(300)", func(o *Out) { o.Num(300) }, "\xac\x02"},
		{"Int(-1)", func(o *Out) { o.Int(-1) }, "\x01"},
		{"Int(64)", func(o *Out) { o.Int(64) }, "\x80\x01"},
		{"Text(ab)", func(o *Out) { o.Text("ab") }, "\x02ab"},
		{"Byte(9)", func(o *Out) { o.Byte(9) }, "\x09"},
		{"Text of nothing", func(o *Out) { o.Text("") }, "\x00"},
	} {
		if got := written(c.do); got != c.want {
			t.Errorf("%s: % x, want % x", c.name, got, c.want)
		}
		c.do(&all)
		want += c.want
		if got := all.String(); got != want {
			t.Errorf("behind %s: % x, want % x", c.name, got, want)
		}
	}
}

// P2.1: the least and the greatest number of each count of bytes.
func TestNumLengths(t *testing.T) {
	for _, c := range []struct {
		n    uint64
		want string
	}{
		{0, "\x00"}, {127, "\x7f"},
		{128, "\x80\x01"}, {1<<14 - 1, "\xff\x7f"},
		{1 << 14, "\x80\x80\x01"}, {1<<21 - 1, "\xff\xff\x7f"},
		{1 << 21, "\x80\x80\x80\x01"}, {1<<28 - 1, "\xff\xff\xff\x7f"},
		{1 << 28, "\x80\x80\x80\x80\x01"}, {1<<35 - 1, "\xff\xff\xff\xff\x7f"},
		{1 << 35, "\x80\x80\x80\x80\x80\x01"}, {1<<42 - 1, "\xff\xff\xff\xff\xff\x7f"},
		{1 << 42, "\x80\x80\x80\x80\x80\x80\x01"}, {1<<49 - 1, "\xff\xff\xff\xff\xff\xff\x7f"},
		{1 << 49, "\x80\x80\x80\x80\x80\x80\x80\x01"}, {1<<56 - 1, "\xff\xff\xff\xff\xff\xff\xff\x7f"},
		{1 << 56, "\x80\x80\x80\x80\x80\x80\x80\x80\x01"}, {1<<63 - 1, "\xff\xff\xff\xff\xff\xff\xff\xff\x7f"},
		{1 << 63, "\x80\x80\x80\x80\x80\x80\x80\x80\x80\x01"}, {1<<64 - 1, "\xff\xff\xff\xff\xff\xff\xff\xff\xff\x01"},
	} {
		if got := written(func(o *Out) { o.Num(c.n) }); got != c.want {
			t.Errorf("Num(%d): % x, want % x", c.n, got, c.want)
		}
		x := Of(c.want)
		if got := x.Num(); got != c.n {
			t.Errorf("% x is read as %d, want %d", c.want, got, c.n)
		}
		checkNoFault(t, x, 0)
	}
}

// P2.1: numbers and integers are those of the library's varints.
func TestWriteNumbersAndIntegers(t *testing.T) {
	for _, n := range edges() {
		want := string(binary.AppendUvarint(nil, n))
		if got := written(func(o *Out) { o.Num(n) }); got != want {
			t.Errorf("Num(%d): % x, want % x", n, got, want)
		}
	}
	for _, n := range integers() {
		want := string(binary.AppendVarint(nil, n))
		if got := written(func(o *Out) { o.Int(n) }); got != want {
			t.Errorf("Int(%d): % x, want % x", n, got, want)
		}
	}
}

// P2.1: an integer is the number 2n, or -2n - 1, reckoned without a bound.
func TestIntIsItsNumber(t *testing.T) {
	for _, n := range integers() {
		want := new(big.Int).Mul(big.NewInt(2), big.NewInt(n))
		if n < 0 {
			want.Neg(want).Sub(want, big.NewInt(1))
		}
		if !want.IsUint64() {
			t.Fatalf("%d is no number for %d", want, n)
		}
		asInt, asNum := written(func(o *Out) { o.Int(n) }), written(func(o *Out) { o.Num(want.Uint64()) })
		if asInt != asNum {
			t.Errorf("Int(%d): % x, its number % x", n, asInt, asNum)
		}
	}
	for n, want := range map[int64]string{math.MinInt64: "\xff\xff\xff\xff\xff\xff\xff\xff\xff\x01", math.MaxInt64: "\xfe\xff\xff\xff\xff\xff\xff\xff\xff\x01", 0: "\x00", 1: "\x02", -2: "\x03"} {
		if got := written(func(o *Out) { o.Int(n) }); got != want {
			t.Errorf("Int(%d): % x, want % x", n, got, want)
		}
	}
}

// P2.1: a text is its length and its bytes, a byte itself.
func TestWriteTextsAndBytes(t *testing.T) {
	for _, s := range texts() {
		want := string(binary.AppendUvarint(nil, uint64(len(s)))) + s
		if got := written(func(o *Out) { o.Text(s) }); got != want {
			t.Errorf("a text of %d bytes: %d bytes, want %d", len(s), len(got), len(want))
		}
	}
	for b := range 256 {
		if got := written(func(o *Out) { o.Byte(byte(b)) }); got != string([]byte{byte(b)}) {
			t.Errorf("Byte(%d): % x", b, got)
		}
	}
}

// P2.1: an Out that nothing was done to is empty.
func TestEmptyOut(t *testing.T) {
	var o Out
	if o.String() != "" || new(Out).String() != "" || (&Out{}).String() != "" {
		t.Error("an Out that nothing was done to is not empty")
	}
}

// P2.1: a nil Out takes all and has nothing.
func TestNilOut(t *testing.T) {
	var o *Out
	for _, do := range []func(){func() {}, func() { o.Num(300) }, func() { o.Int(-5) }, func() { o.Text("ab") }, func() { o.Text("") }, func() { o.Byte(1) }} {
		do()
		if got := o.String(); got != "" {
			t.Errorf("a nil Out has % x", got)
		}
	}
}

// P2.1: String changes nothing, and what it told stays as it was.
func TestStringAgain(t *testing.T) {
	var o Out
	o.Num(300)
	o.Text("ab")
	first, second := o.String(), o.String()
	if first != "\xac\x02\x02ab" || second != first {
		t.Errorf("% x, then % x", first, second)
	}
	o.Byte(7)
	o.Int(-1)
	if got := o.String(); got != "\xac\x02\x02ab\x07\x01" {
		t.Errorf("behind further writing: % x", got)
	}
	if first != "\xac\x02\x02ab" || second != "\xac\x02\x02ab" {
		t.Errorf("what was told has changed: % x, % x", first, second)
	}
	if got := o.String(); got != "\xac\x02\x02ab\x07\x01" {
		t.Errorf("once more: % x", got)
	}
}

// R3: two Outs, and two readers, know nothing of each other.
func TestObjectsApart(t *testing.T) {
	var a, b Out
	a.Text("left")
	b.Text("right")
	a.Byte(1)
	b.Byte(2)
	if a.String() != "\x04left\x01" || b.String() != "\x05right\x02" {
		t.Errorf("%q, %q", a.String(), b.String())
	}
	x, y := Of(a.String()), Of(a.String())
	if x.Text(9) != "left" || y.Left() != 6 || x.Byte() != 1 || x.Byte() != 0 {
		t.Error("one reader")
	}
	checkFault(t, x, api.ErrShort, 6, 0)
	checkNoFault(t, y, 6)
	if y.Text(9) != "left" || y.Byte() != 1 {
		t.Error("the other reader")
	}
	checkNoFault(t, y, 0)
}

// P2.2, P2.3: the chapter's examples of what is read.
func TestReadExamples(t *testing.T) {
	x := Of("\xac\x02")
	if n := x.Num(); n != 300 || x.End() != api.OK {
		t.Errorf("ac 02: %d, End %d", n, x.End())
	}
	for s, e := range map[string]api.Errno{"\x80": api.ErrShort, "\x80\x00": api.ErrForm} {
		x := Of(s)
		if n := x.Num(); n != 0 {
			t.Errorf("% x: %d", s, n)
		}
		checkFault(t, x, e, 0, len(s))
	}
	x = Of("\x05\x03a")
	if n, s, b := x.Most(5), x.Text(9), x.Byte(); n != 5 || s != "" || b != 0 {
		t.Errorf("05 03 61: %d, %q, %d", n, s, b)
	}
	checkFault(t, x, api.ErrShort, 1, 2)
	x = Of("\x05")
	if n := x.Most(4); n != 0 {
		t.Errorf("05: %d", n)
	}
	checkFault(t, x, api.ErrForm, 0, 1)
	x = Of("\x01\x02")
	if b := x.Byte(); b != 1 || x.End() != api.ErrForm {
		t.Errorf("01 02: %d, End %d", b, x.End())
	}
}

// wantNum is the chapter's words on reading a number, fault by fault in their order.
func wantNum(s string) (n uint64, taken int, e api.Errno) {
	last := slices.IndexFunc([]byte(s), func(b byte) bool { return b < 128 })
	if len(s) >= 10 && (last < 0 || last >= 9) && s[9] > 1 {
		return 0, 0, api.ErrForm
	}
	if last < 0 {
		return 0, 0, api.ErrShort
	}
	if s[last] == 0 && last > 0 {
		return 0, 0, api.ErrForm
	}
	whole := new(big.Int)
	for i := last; i >= 0; i-- {
		whole.Mul(whole, big.NewInt(128)).Add(whole, big.NewInt(int64(s[i]%128)))
	}
	if !whole.IsUint64() {
		panic("no number of 64 bits")
	}
	return whole.Uint64(), last + 1, api.OK
}

// wantMost is the words on Most.
func wantMost(s string, most int) (n, taken int, e api.Errno) {
	long, taken, e := wantNum(s)
	if e != api.OK {
		return 0, 0, e
	}
	if most < 0 || new(big.Int).SetUint64(long).Cmp(big.NewInt(int64(most))) > 0 {
		return 0, 0, api.ErrForm
	}
	return int(long), taken, api.OK
}

// wantText is the words on Text.
func wantText(s string, most int) (text string, taken int, e api.Errno) {
	length, taken, e := wantMost(s, most)
	if e != api.OK {
		return "", 0, e
	}
	if len(s)-taken < length {
		return "", 0, api.ErrShort
	}
	return s[taken : taken+length], taken + length, api.OK
}

// wantInt is the words on Int.
func wantInt(s string) (n int64, taken int, e api.Errno) {
	number, taken, e := wantNum(s)
	if e != api.OK {
		return 0, 0, e
	}
	whole := new(big.Int).SetUint64(number)
	if number%2 == 1 {
		whole.Add(whole, big.NewInt(1)).Neg(whole)
	}
	whole.Div(whole, big.NewInt(2))
	return whole.Int64(), taken, api.OK
}

// wantByte is the words on Byte.
func wantByte(s string) (b byte, taken int, e api.Errno) {
	if len(s) == 0 {
		return 0, 0, api.ErrShort
	}
	return s[0], 1, api.OK
}

// checkReading holds a reader behind one reading of s, from its place at on, against what is wanted.
func checkReading(t *testing.T, x *In, s string, at, taken int, e api.Errno) {
	t.Helper()
	if e == api.OK {
		checkNoFault(t, x, len(s)-at-taken)
	} else {
		checkFault(t, x, e, at, len(s)-at)
	}
}

// checkNum reads a number of s, from its beginning and behind three bytes.
func checkNum(t *testing.T, s string) {
	t.Helper()
	n, taken, e := wantNum(s)
	x := Of(s)
	if got := x.Num(); got != n {
		t.Errorf("% x: %d, want %d", s, got, n)
	}
	checkReading(t, x, s, 0, taken, e)
	x = Of("abc" + s)
	if x.Byte() != 'a' || x.Byte() != 'b' || x.Byte() != 'c' || x.Num() != n {
		t.Errorf("% x behind three bytes", s)
	}
	checkReading(t, x, "abc"+s, 3, taken, e)
	if t.Failed() {
		t.Fatalf("at % x", s)
	}
}

// P2.2: every text of up to two bytes, and every byte behind up to eleven that go on.
func TestNumEveryEnd(t *testing.T) {
	checkNum(t, "")
	for a := range 256 {
		checkNum(t, string([]byte{byte(a)}))
		for b := range 256 {
			checkNum(t, string([]byte{byte(a), byte(b)}))
		}
	}
	for _, on := range []string{"\x80", "\xff", "\x81", "\xaa"} {
		for count := range 12 {
			begin := strings.Repeat(on, count)
			checkNum(t, begin)
			for b := range 256 {
				for _, behind := range []string{"", "\x00", "\x01", "\xff\xff", "rest"} {
					checkNum(t, begin+string([]byte{byte(b)})+behind)
				}
			}
		}
	}
}

// P2.2: a tenth byte above 1 is ErrForm, whatever stands behind it, or nothing;
// a text that ends ahead of it is short.
func TestNumTenthByte(t *testing.T) {
	nine := strings.Repeat("\x80", 9)
	for tenth := range 256 {
		for _, behind := range []string{"", "\x00", "\x01", "\x80", "\x80\x01", "abc"} {
			s := nine + string([]byte{byte(tenth)}) + behind
			x := Of(s)
			n := x.Num()
			if tenth == 1 {
				if n != 1<<63 {
					t.Errorf("% x: %d", s, n)
				}
				checkNoFault(t, x, len(behind))
				continue
			}
			if n != 0 {
				t.Errorf("% x: %d", s, n)
			}
			checkFault(t, x, api.ErrForm, 0, len(s))
		}
	}
	for count := range 10 {
		x := Of(nine[:count])
		if n := x.Num(); n != 0 {
			t.Errorf("%d bytes: %d", count, n)
		}
		checkFault(t, x, api.ErrShort, 0, count)
	}
}

// P2.2: a last byte 0 is ErrForm, but if it is the only one.
func TestNumLastZero(t *testing.T) {
	x := Of("\x00")
	if n := x.Num(); n != 0 {
		t.Errorf("00: %d", n)
	}
	checkNoFault(t, x, 0)
	for count := 1; count < 10; count++ {
		s := strings.Repeat("\xff", count) + "\x00"
		x := Of(s)
		if n := x.Num(); n != 0 {
			t.Errorf("% x: %d", s, n)
		}
		checkFault(t, x, api.ErrForm, 0, len(s))
	}
}

// P2.2: Int is the integer of what Num reads, with the same faults.
func TestInt(t *testing.T) {
	for _, n := range integers() {
		x := Of(written(func(o *Out) { o.Int(n) }))
		if got := x.Int(); got != n {
			t.Errorf("%d is read as %d", n, got)
		}
		checkNoFault(t, x, 0)
	}
	for _, s := range []string{"", "\x80", "\x80\x00", "\xff\xff\xff\xff\xff\xff\xff\xff\xff\x02", "\xff\xff\xff\xff\xff\xff\xff\xff\xff"} {
		_, _, e := wantNum(s)
		x := Of("\x03" + s)
		if x.Int() != -2 || x.Int() != 0 {
			t.Errorf("03 % x", s)
		}
		checkFault(t, x, e, 1, len(s))
	}
}

// bounds are what Most and Text may be asked of a number: below 0, at it and about it.
func bounds(n uint64) []int {
	list := []int{math.MinInt, -1 << 31, -2, -1, 0, 1, 2, 127, 128, 255, math.MaxInt - 1, math.MaxInt}
	if n <= math.MaxInt {
		list = append(list, int(n), max(int(n), 1)-1, min(int(n), math.MaxInt-1)+1, -int(n), -int(n)-1)
	}
	return list
}

// checkMost reads a number of s that has a bound, behind a byte.
func checkMost(t *testing.T, s string, most int) {
	t.Helper()
	n, taken, e := wantMost(s, most)
	x := Of("-" + s)
	x.Byte()
	if got := x.Most(most); got != n {
		t.Errorf("Most(%d) of % x: %d, want %d", most, s, got, n)
	}
	checkReading(t, x, "-"+s, 1, taken, e)
	if t.Failed() {
		t.Fatalf("at Most(%d) of % x", most, s)
	}
}

// P2.2: Most at its bound, above it, and with a bound below 0.
func TestMost(t *testing.T) {
	for _, n := range edges() {
		s := written(func(o *Out) { o.Num(n) })
		for _, most := range bounds(n) {
			checkMost(t, s, most)
			checkMost(t, s+"\x00\xff", most)
			checkMost(t, s[:len(s)-1], most)
		}
	}
	for _, s := range []string{"", "\x80", "\x80\x00", "\xff\xff\xff\xff\xff\xff\xff\xff\xff\x02", "\xff\xff\xff\xff\xff\xff\xff\xff\xff"} {
		for _, most := range bounds(0) {
			checkMost(t, s, most)
		}
	}
}

// P2.2: the least bounds by hand: 0 is all that Most(0) reads, and Most below 0 reads nothing, not even 0.
func TestMostAtItsEnds(t *testing.T) {
	for _, c := range []struct {
		s    string
		most int
		n    int
		e    api.Errno
	}{
		{"\x00", 0, 0, api.OK}, {"\x01", 0, 0, api.ErrForm}, {"\x00", -1, 0, api.ErrForm}, {"\x00", math.MinInt, 0, api.ErrForm},
		{"\x05", 5, 5, api.OK}, {"\x05", 4, 0, api.ErrForm}, {"\x05", 6, 5, api.OK}, {"\x05", -5, 0, api.ErrForm},
		{"\xff\xff\xff\xff\xff\xff\xff\xff\x7f", math.MaxInt, math.MaxInt, api.OK},
		{"\x80\x80\x80\x80\x80\x80\x80\x80\x80\x01", math.MaxInt, 0, api.ErrForm},
		{"\xff\xff\xff\xff\xff\xff\xff\xff\xff\x01", -1, 0, api.ErrForm},
		{"", 5, 0, api.ErrShort}, {"\x85", 5, 0, api.ErrShort}, {"\x85\x00", 5, 0, api.ErrForm},
		// Num's faults stand ahead of what is said of the bound.
		{"", -1, 0, api.ErrShort}, {"\x85", -1, 0, api.ErrShort},
	} {
		x := Of(c.s)
		if n := x.Most(c.most); n != c.n || x.End() != c.e {
			t.Errorf("Most(%d) of % x: %d, End %d; want %d, %d", c.most, c.s, n, x.End(), c.n, c.e)
		}
	}
}

// checkText reads a text of s, behind a byte.
func checkText(t *testing.T, s string, most int) {
	t.Helper()
	text, taken, e := wantText(s, most)
	x := Of("-" + s)
	x.Byte()
	if got := x.Text(most); got != text {
		t.Errorf("Text(%d) of %d bytes: %q, want %q", most, len(s), got, text)
	}
	checkReading(t, x, "-"+s, 1, taken, e)
	if t.Failed() {
		t.Fatalf("at Text(%d) of %d bytes", most, len(s))
	}
}

// P2.2: Text at its bound, above it, with a bound below 0, and with bytes missing or behind it.
func TestText(t *testing.T) {
	for _, text := range texts() {
		s := written(func(o *Out) { o.Text(text) })
		for _, most := range bounds(uint64(len(text))) {
			checkText(t, s, most)
			checkText(t, s+"\x00more", most)
			checkText(t, s[:len(s)-1], most)
			checkText(t, s[:1], most)
		}
	}
	for _, n := range edges() {
		s := written(func(o *Out) { o.Num(n) })
		for _, most := range bounds(n) {
			checkText(t, s, most)
			checkText(t, s+"some bytes", most)
		}
	}
}

// P2.2: a text's faults by hand: its length's own, the bound's, then the missing bytes.
func TestTextFaults(t *testing.T) {
	for _, c := range []struct {
		s    string
		most int
		text string
		e    api.Errno
	}{
		{"\x00", 0, "", api.OK}, {"\x02ab", 2, "ab", api.OK}, {"\x02ab", 1, "", api.ErrForm}, {"\x02ab", 0, "", api.ErrForm},
		{"\x00", -1, "", api.ErrForm}, {"\x02ab", -1, "", api.ErrForm}, {"\x02ab", math.MinInt, "", api.ErrForm},
		{"\x03ab", 3, "", api.ErrShort}, {"\x03ab", 2, "", api.ErrForm}, {"\x01", 1, "", api.ErrShort},
		{"", 9, "", api.ErrShort}, {"\x80", 9, "", api.ErrShort}, {"\x82\x00ab", 9, "", api.ErrForm},
		{"\xff\xff\xff\xff\xff\xff\xff\xff\x7fab", math.MaxInt, "", api.ErrShort},
		{"\xff\xff\xff\xff\xff\xff\xff\xff\xff\x01ab", math.MaxInt, "", api.ErrForm},
		{"\xff\xff\xff\xff\xff\xff\xff\xff\xff\x02ab", math.MaxInt, "", api.ErrForm},
		{"", -1, "", api.ErrShort}, {"\x80", -1, "", api.ErrShort},
	} {
		x := Of(c.s)
		if text := x.Text(c.most); text != c.text || x.End() != c.e {
			t.Errorf("Text(%d) of %q: %q, End %d; want %q, %d", c.most, c.s, text, x.End(), c.text, c.e)
		}
		if c.e != api.OK {
			checkFault(t, x, c.e, 0, len(c.s))
		}
	}
}

// P2.2: every byte is read as itself; where none is left the reading is short.
func TestByte(t *testing.T) {
	for b := range 256 {
		x := Of(string([]byte{byte(b)}))
		if got := x.Byte(); got != byte(b) {
			t.Errorf("%d is read as %d", b, got)
		}
		checkNoFault(t, x, 0)
		if got := x.Byte(); got != 0 {
			t.Errorf("behind the end: %d", got)
		}
		checkFault(t, x, api.ErrShort, 1, 0)
	}
}

// P2.3: with no fault End hangs on what is left alone, and asking changes nothing.
func TestLeftFaultEnd(t *testing.T) {
	x := Of("\x01\x02\x02ab\xac\x02")
	checkNoFault(t, x, 7)
	checkNoFault(t, x, 7)
	x.Byte()
	checkNoFault(t, x, 6)
	x.Int()
	checkNoFault(t, x, 5)
	x.Text(2)
	checkNoFault(t, x, 2)
	if n := x.Num(); n != 300 {
		t.Errorf("behind an End that was ErrForm: %d", n)
	}
	checkNoFault(t, x, 0)
	checkNoFault(t, Of(""), 0)
}

// readings are all the readings; each tells whether it answered 0, or no text.
func readings() map[string]func(x *In) bool {
	return map[string]func(x *In) bool{
		"Num":         func(x *In) bool { return x.Num() == 0 },
		"Int":         func(x *In) bool { return x.Int() == 0 },
		"Most(9)":     func(x *In) bool { return x.Most(9) == 0 },
		"Most(max)":   func(x *In) bool { return x.Most(math.MaxInt) == 0 },
		"Most(-1)":    func(x *In) bool { return x.Most(-1) == 0 },
		"Text(9)":     func(x *In) bool { return x.Text(9) == "" },
		"Text(max)":   func(x *In) bool { return x.Text(math.MaxInt) == "" },
		"Text(-1)":    func(x *In) bool { return x.Text(-1) == "" },
		"Text(least)": func(x *In) bool { return x.Text(math.MinInt) == "" },
		"Byte":        func(x *In) bool { return x.Byte() == 0 },
	}
}

// P2.3, P2.4: behind a fault every reading answers 0 or no text, and the fault
// stays as it was, though what stands there could well be read.
func TestNoReadingBehindFault(t *testing.T) {
	for name, reading := range readings() {
		for _, c := range []struct {
			s     string
			fail  func(x *In)
			e     api.Errno
			place int
		}{
			{"\x05\x05hello", func(x *In) { x.Num(); x.Most(4) }, api.ErrForm, 1},
			{"\x05\x05hello", func(x *In) { x.Most(4) }, api.ErrForm, 0},
			{"\x05\x03a", func(x *In) { x.Byte(); x.Text(9) }, api.ErrShort, 1},
			{"\x81\x00\x01\x01a", func(x *In) { x.Num() }, api.ErrForm, 0},
			{"\x01\x01a", func(x *In) { x.Text(-1) }, api.ErrForm, 0},
			{"\x01", func(x *In) { x.Byte(); x.Byte() }, api.ErrShort, 1},
		} {
			x := Of(c.s)
			c.fail(x)
			checkFault(t, x, c.e, c.place, len(c.s)-c.place)
			for range 3 {
				if !reading(x) {
					t.Errorf("%s of %q read on behind a fault", name, c.s)
				}
				checkFault(t, x, c.e, c.place, len(c.s)-c.place)
			}
		}
	}
}

// P2.3: a nil reader reads the empty text, and has nothing to keep a fault in.
func TestNilReader(t *testing.T) {
	var x *In
	checkNoFault(t, x, 0)
	for name, reading := range readings() {
		if !reading(x) {
			t.Errorf("%s of a nil reader", name)
		}
		checkNoFault(t, x, 0)
	}
}

// P2.3: a reader that Of did not make is one of the empty text.
func TestReaderThatOfDidNotMake(t *testing.T) {
	for name, reading := range readings() {
		var bare In
		for what, x := range map[string]*In{"In{}": &bare, "new(In)": new(In), "Of of nothing": Of("")} {
			checkNoFault(t, x, 0)
			if !reading(x) {
				t.Errorf("%s of %s", name, what)
			}
			checkFault(t, x, api.ErrShort, 0, 0)
		}
	}
}

// part is one thing to be written, and how to read it.
type part struct {
	kind int
	n    uint64
	text string
}

const parts = 5

func (p part) write(o *Out) {
	switch p.kind {
	case 0:
		o.Num(p.n)
	case 1:
		o.Num(p.n >> 1)
	case 2:
		o.Int(int64(p.n))
	case 3:
		o.Text(p.text)
	case 4:
		o.Byte(byte(p.n))
	}
}

func (p part) readsBack(x *In) bool {
	switch p.kind {
	case 0:
		return x.Num() == p.n
	case 1:
		return x.Most(int(p.n>>1)) == int(p.n>>1)
	case 2:
		return x.Int() == int64(p.n)
	case 3:
		return x.Text(len(p.text)) == p.text
	default:
		return x.Byte() == byte(p.n)
	}
}

// P2.4: what was written, read in the same order, is what was written, and End is OK.
func TestThereAndBack(t *testing.T) {
	n := noise(3)
	for range 2000 {
		list := make([]part, n.below(12))
		var o Out
		for i := range list {
			list[i] = part{n.below(parts), n.number(), n.text(n.below(200))}
			list[i].write(&o)
		}
		x := Of(o.String())
		for i, p := range list {
			if !p.readsBack(x) {
				t.Fatalf("part %d of % x is not what was written", i, o.String())
			}
		}
		checkNoFault(t, x, 0)
	}
}

// P2.4: of what was written no beginning is read whole.
func TestCutShort(t *testing.T) {
	n := noise(4)
	for range 300 {
		list := make([]part, 1+n.below(6))
		var o Out
		for i := range list {
			list[i] = part{n.below(parts), n.number(), n.text(n.below(20))}
			list[i].write(&o)
		}
		s := o.String()
		for cut := range len(s) {
			x := Of(s[:cut])
			for _, p := range list {
				p.readsBack(x)
			}
			if x.End() != api.ErrShort {
				t.Fatalf("% x, cut at %d: End %d", s, cut, x.End())
			}
		}
	}
}

// again reads one thing of x, told by kind, and writes it to o; it answers what the words want of it.
func again(t *testing.T, x *In, o *Out, kind, most int, rest string) (taken int, e api.Errno) {
	t.Helper()
	same := true
	switch kind {
	case 0:
		want, to, fault := wantNum(rest)
		got := x.Num()
		o.Num(got)
		same, taken, e = got == want, to, fault
	case 1:
		want, to, fault := wantMost(rest, most)
		got := x.Most(most)
		o.Num(uint64(got))
		same, taken, e = got == want, to, fault
	case 2:
		want, to, fault := wantInt(rest)
		got := x.Int()
		o.Int(got)
		same, taken, e = got == want, to, fault
	case 3:
		want, to, fault := wantText(rest, most)
		got := x.Text(most)
		o.Text(got)
		same, taken, e = got == want, to, fault
	default:
		want, to, fault := wantByte(rest)
		got := x.Byte()
		o.Byte(got)
		same, taken, e = got == want, to, fault
	}
	if !same {
		t.Fatalf("kind %d, most %d: % x is read wrong", kind, most, rest)
	}
	return taken, e
}

// P2.2, P2.3, P2.4: any bytes, read by any readings: what is read without a fault,
// written again, is the bytes that were read.
func TestReadAndWrittenAgain(t *testing.T) {
	n := noise(5)
	for range 20000 {
		s := n.text(n.below(40))
		x, at := Of(s), 0
		var o Out
		for range 12 {
			was := o.String()
			taken, e := again(t, x, &o, n.below(parts), n.below(300)-20, s[at:])
			checkReading(t, x, s, at, taken, e)
			if e != api.OK {
				if was != s[:at] {
					t.Fatalf("% x: written again ahead of the fault: % x", s, was)
				}
				break
			}
			at += taken
			if o.String() != s[:at] {
				t.Fatalf("% x: written again: % x", s, o.String())
			}
		}
		if t.Failed() {
			t.Fatalf("at % x", s)
		}
	}
}

// R3: the same readings of the same text answer the same again.
func TestSameAgain(t *testing.T) {
	read := func() string {
		x := Of("\x07\xac\x02\x03\x02ab\x80\x00")
		var o Out
		o.Byte(x.Byte())
		o.Num(x.Num())
		o.Int(x.Int())
		o.Text(x.Text(9))
		o.Num(x.Num())
		e, at := x.Fault()
		o.Num(uint64(e))
		o.Num(uint64(at))
		return o.String()
	}
	first := read()
	if first != "\x07\xac\x02\x03\x02ab\x00\x08\x07" || read() != first {
		t.Errorf("% x, then % x", first, read())
	}
}
