package frame

import (
	"encoding/binary"
	"hash/crc32"
	"math"
	"strings"
	"testing"

	"meter/api"
)

// noise is a row of numbers that look like chance and are the same each time.
type noise uint64

func (n *noise) next() uint64 {
	*n += 0x9e3779b97f4a7c15
	z := uint64(*n)
	z = (z ^ z>>30) * 0xbf58476d1ce4e5b9
	z = (z ^ z>>27) * 0x94d049bb133111eb
	return z ^ z>>31
}

func (n *noise) below(bound int) int {
	return int(n.next() % uint64(bound))
}

func (n *noise) text(length int) string {
	b := make([]byte, length)
	for i := range b {
		b[i] = byte(n.next())
		if n.below(3) == 0 {
			b[i] = 0
		}
	}
	return string(b)
}

// four is a number in four bytes, the lowest first, by the library.
func four(n uint32) string {
	return string(binary.LittleEndian.AppendUint32(nil, n))
}

// crc is a text's sum in four bytes, by the library.
func crc(s string) string {
	return four(crc32.Checksum([]byte(s), crc32.MakeTable(crc32.Castagnoli)))
}

// header is a length with its right sum, be there such a frame or not.
func header(length uint32) string {
	return four(length) + crc(four(length))
}

// framed is a text's frame in the chapter's words, be it too long or not.
func framed(body string) string {
	return header(uint32(len(body))) + body + crc(body)
}

// wantNext is what the promise asks of Next, clause by clause.
func wantNext(b string, at int) (string, int, api.Errno) {
	if at < 0 || at > len(b) {
		return "", 0, api.ErrArg
	}
	s := b[at:]
	if len(s) < 8 {
		return "", 0, api.ErrShort
	}
	if crc(s[:4]) != s[4:8] {
		return "", 0, api.ErrSum
	}
	length := int64(binary.LittleEndian.Uint32([]byte(s[:4])))
	if length > 16384 {
		return "", 0, api.ErrLong
	}
	if int64(len(s)-8) < length+4 {
		return "", 0, api.ErrShort
	}
	body, behind := s[8:8+length], s[8+length:]
	if crc(body) != behind[:4] {
		return "", 0, api.ErrSum
	}
	return body, at + 12 + int(length), api.OK
}

// wantWhole is what the promise asks of Whole.
func wantWhole(b string) (string, api.Errno) {
	body, to, e := wantNext(b, 0)
	if e == api.OK && to != len(b) {
		return "", api.ErrForm
	}
	return body, e
}

// short is how a text is told in a test's words.
func short(s string) string {
	return s[:min(len(s), 40)]
}

func checkNext(t *testing.T, b string, at int, body string, to int, e api.Errno) {
	t.Helper()
	gotBody, gotTo, gotE := Next(b, at)
	if gotBody != body || gotTo != to || gotE != e {
		t.Errorf("Next(% x.., %d bytes, at %d): %d bytes, %d, error %d; want %d bytes, %d, error %d",
			short(b), len(b), at, len(gotBody), gotTo, gotE, len(body), to, e)
	}
}

func checkWhole(t *testing.T, b, body string, e api.Errno) {
	t.Helper()
	if got, gotE := Whole(b); got != body || gotE != e {
		t.Errorf("Whole(% x.., %d bytes): %d bytes, error %d; want %d bytes, error %d",
			short(b), len(b), len(got), gotE, len(body), e)
	}
}

// put is a frame that must be there.
func put(t *testing.T, body string) string {
	t.Helper()
	f, e := Put(body)
	if e != api.OK {
		t.Fatalf("Put of %d bytes: error %d", len(body), e)
	}
	return f
}

// bodies are texts of the lengths at which something begins or ends, frames themselves among them.
func bodies() []string {
	n := noise(1)
	list := []string{
		"", "\x00", "\xff", "a", "\x00\x00\x00\x00", "\xff\xff\xff\xff", "123456789",
		"not UTF-8: \xc3\x28 \x80", "gr\u00fc\u00dfe", framed(""), framed("a"), framed("") + framed("a"),
		framed(framed("in a frame")), header(0), header(5), strings.Repeat("\x00", 300),
	}
	for length := range 20 {
		list = append(list, n.text(length))
	}
	for _, length := range []int{127, 128, 255, 256, 257, 4660, 16383, 16384} {
		list = append(list, n.text(length))
	}
	return append(list, strings.Repeat("\x00", 16384))
}

// P3.1: frames byte by byte: the chapter's example, and lengths and sums whose four bytes differ.
func TestPutByHand(t *testing.T) {
	for _, c := range []struct{ body, begin, end string }{
		{"", "\x00\x00\x00\x00\xc7\x4b\x67\x48", "\x00\x00\x00\x00"},
		{"a", "\x01\x00\x00\x00\x7f\xe1\x22\x95", "\x30\x43\xd0\xc1"},
		{"123456789", "\x09\x00\x00\x00\x99\x82\x66\x63", "\x83\x92\x06\xe3"},
		{strings.Repeat("x", 0x1234), "\x34\x12\x00\x00\x05\xf0\xc9\x32", "\x32\x23\xfc\x36"},
		{strings.Repeat("x", 16384), "\x00\x40\x00\x00\x1e\xcb\x02\x8f", "\x5d\x88\xc0\xce"},
	} {
		f, e := Put(c.body)
		if e != api.OK || f != c.begin+c.body+c.end {
			t.Errorf("Put of %d bytes: error %d, % x", len(c.body), e, short(f))
		}
	}
}

// P3.1: a frame is what the words say, with 12 bytes and the body's.
func TestPut(t *testing.T) {
	for _, body := range bodies() {
		f, e := Put(body)
		if e != api.OK || f != framed(body) || len(f) != 12+len(body) {
			t.Errorf("Put of %d bytes: error %d, %d bytes, % x", len(body), e, len(f), short(f))
		}
	}
}

// P3.1: a body of MaxFrame bytes has a frame, one of more has none.
func TestPutLong(t *testing.T) {
	if f, e := Put(strings.Repeat("x", api.MaxFrame)); e != api.OK || len(f) != api.MaxFrame+12 {
		t.Errorf("MaxFrame bytes: error %d, %d bytes", e, len(f))
	}
	for _, length := range []int{api.MaxFrame + 1, api.MaxFrame + 2, 2 * api.MaxFrame, 1 << 16, 1<<16 + 1, 1 << 20} {
		if f, e := Put(strings.Repeat("x", length)); e != api.ErrLong || f != "" {
			t.Errorf("%d bytes: error %d, %d bytes", length, e, len(f))
		}
	}
}

// P3.2, P3.3: the chapter's examples.
func TestExamples(t *testing.T) {
	f := put(t, "")
	checkWhole(t, f, "", api.OK)
	checkWhole(t, f+"x", "", api.ErrForm)
	checkWhole(t, f[:11], "", api.ErrShort)
	checkNext(t, f+f, 12, "", 24, api.OK)
	checkNext(t, f+f, 24, "", 0, api.ErrShort)
	checkNext(t, f+f, 25, "", 0, api.ErrArg)
}

// P3.2: a place that is none is ErrArg, whatever stands in the text.
func TestNextPlace(t *testing.T) {
	for _, b := range []string{"", "x", framed(""), framed("a"), framed("a") + framed("b"), "\xff\xff\xff\xff\xff\xff\xff\xff\xff", framed("a")[:9]} {
		for _, at := range []int{-1, -2, -len(b) - 1, -8, -12, math.MinInt32, math.MinInt, math.MinInt + 1,
			len(b) + 1, len(b) + 8, len(b) + 12, math.MaxInt32, math.MaxInt - 12, math.MaxInt - 8, math.MaxInt} {
			checkNext(t, b, at, "", 0, api.ErrArg)
		}
		checkNext(t, b, len(b), "", 0, api.ErrShort)
	}
}

// P3.2: fewer than 8 bytes are short, be they a frame's or not; with 8 the sum is asked.
func TestNextFewBytes(t *testing.T) {
	for _, b := range []string{framed("abc"), strings.Repeat("\xff", 15), header(16385), "garbage and more garbage"} {
		for count := range 8 {
			checkNext(t, b[:count], 0, "", 0, api.ErrShort)
			checkNext(t, "ab"+b[:count], 2, "", 0, api.ErrShort)
		}
	}
	checkNext(t, "\xff\xff\xff\xff\xff\xff\xff", 0, "", 0, api.ErrShort)
	// This length is its own sum: with the eighth byte it is right, and too long.
	checkNext(t, "\xff\xff\xff\xff\xff\xff\xff\xff", 0, "", 0, api.ErrLong)
	checkNext(t, "\xff\xff\xff\xff\xff\xff\xff\xfe", 0, "", 0, api.ErrSum)
	checkNext(t, "\x00\x00\x00\x00\x00\x00\x00\x00", 0, "", 0, api.ErrSum)
	checkNext(t, header(0), 0, "", 0, api.ErrShort)
	checkNext(t, header(16385), 0, "", 0, api.ErrLong)
}

// P3.2: each bit of the first eight bytes counts for the first sum, ahead of all that follows.
func TestNextFirstSum(t *testing.T) {
	for _, f := range []string{framed(""), framed("abc"), framed(strings.Repeat("x", 16384)), header(3), header(16385), header(3) + "ab?" + crc("abc")} {
		for bit := range 64 {
			b := turned(f, bit, 1)
			checkNext(t, b, 0, "", 0, api.ErrSum)
			checkNext(t, "before"+b, 6, "", 0, api.ErrSum)
			checkNext(t, b[:8], 0, "", 0, api.ErrSum)
			checkWhole(t, b+"behind", "", api.ErrSum)
		}
	}
}

// P3.2: a length above MaxFrame is ErrLong where its sum is right, whether its body stands there or not.
func TestNextLong(t *testing.T) {
	for _, length := range []uint32{16385, 16386, 1 << 15, 1 << 16, 1<<16 + 1, 1 << 24, 1<<24 + 3, 1<<31 - 1, 1 << 31, 1<<31 + 3, 1<<32 - 8, 1<<32 - 4, 1<<32 - 1} {
		checkNext(t, header(length), 0, "", 0, api.ErrLong)
		checkNext(t, header(length)+"abc", 0, "", 0, api.ErrLong)
		checkNext(t, header(length)+"abc"+crc("abc"), 0, "", 0, api.ErrLong)
		checkWhole(t, header(length)+"abc"+crc("abc")+"behind", "", api.ErrLong)
	}
	long := strings.Repeat("x", 16385)
	checkNext(t, framed(long), 0, "", 0, api.ErrLong)
	checkWhole(t, framed(long), "", api.ErrLong)
	checkNext(t, framed(long[1:]), 0, long[1:], 16396, api.OK)
	checkNext(t, header(16384), 0, "", 0, api.ErrShort)
}

// P3.2: fewer bytes than the length and four are short, whatever sum there is.
func TestNextShort(t *testing.T) {
	for _, body := range []string{"", "a", "abc", strings.Repeat("\x00", 50)} {
		f := framed(body)
		spoilt := f[:len(f)-4] + "\xff\xff\xff\xff"
		for count := 8; count < len(f); count++ {
			checkNext(t, f[:count], 0, "", 0, api.ErrShort)
			checkNext(t, spoilt[:count], 0, "", 0, api.ErrShort)
			checkNext(t, "ahead, and as long as it is "+f[:count], 28, "", 0, api.ErrShort)
		}
		checkNext(t, f, 0, body, len(f), api.OK)
		checkNext(t, spoilt, 0, "", 0, api.ErrSum)
	}
}

// P3.2: each bit of the body and of its sum counts for the second sum.
func TestNextSecondSum(t *testing.T) {
	for _, body := range []string{"", "a", "abc", strings.Repeat("\x00", 20)} {
		f := framed(body)
		for bit := 64; bit < 8*len(f); bit++ {
			b := turned(f, bit, 1)
			checkNext(t, b, 0, "", 0, api.ErrSum)
			checkNext(t, "ab"+b+"cd", 2, "", 0, api.ErrSum)
			checkWhole(t, b, "", api.ErrSum)
		}
	}
	checkNext(t, header(3)+"abc"+crc("abd"), 0, "", 0, api.ErrSum)
	checkNext(t, header(3)+"abc"+crc("ab")+crc("abc"), 0, "", 0, api.ErrSum)
	checkNext(t, header(0)+crc("\x00"), 0, "", 0, api.ErrSum)
}

// P3.2: where more than one fault is there, the first one of the promise's order is told.
func TestNextOrder(t *testing.T) {
	wrong := "\x01\x02\x03\x04"
	for _, c := range []struct {
		what string
		b    string
		at   int
		e    api.Errno
	}{
		{"no place, few bytes", "abc", 4, api.ErrArg},
		{"no place, wrong sum", four(3) + wrong, -1, api.ErrArg},
		{"no place, too long", header(16385), -1, api.ErrArg},
		{"few bytes, of a length too long", four(16385) + "\x00\x00\x00", 0, api.ErrShort},
		{"wrong first sum, too long", four(16385) + wrong, 0, api.ErrSum},
		{"wrong first sum, body missing", four(3) + wrong, 0, api.ErrSum},
		{"wrong first sum, wrong second", four(3) + wrong + "abc" + wrong, 0, api.ErrSum},
		{"too long, body missing", header(16385) + "abc", 0, api.ErrLong},
		{"too long, wrong second sum", header(16385) + strings.Repeat("x", 16385) + wrong, 0, api.ErrLong},
		{"body missing, wrong second sum", header(3) + wrong, 0, api.ErrShort},
		{"body's sum cut, and wrong", header(3) + "abc" + wrong[:3], 0, api.ErrShort},
		{"wrong second sum, something behind", header(3) + "abc" + wrong + "behind", 0, api.ErrSum},
	} {
		body, to, e := Next(c.b, c.at)
		if body != "" || to != 0 || e != c.e {
			t.Errorf("%s: %q, %d, error %d; want error %d", c.what, body, to, e, c.e)
		}
	}
}

// P3.2: the body, and the place behind the frame, whatever stands ahead and behind.
func TestNext(t *testing.T) {
	for _, body := range bodies() {
		f := framed(body)
		for _, ahead := range []string{"", "x", "ahead of it", framed("another one"), f[:len(f)-1], "\xff\xff\xff\xff\xff\xff\xff\xff"} {
			for _, behind := range []string{"", "\x00", "behind", f, f[:7], "\xff\xff\xff\xff\xff\xff\xff\xff"} {
				checkNext(t, ahead+f+behind, len(ahead), body, len(ahead)+len(f), api.OK)
			}
		}
	}
}

// P3.3: the body of a frame; ErrForm where something stands behind it, be it a frame.
func TestWhole(t *testing.T) {
	for _, body := range bodies() {
		f := framed(body)
		checkWhole(t, f, body, api.OK)
		for _, behind := range []string{"\x00", "x", "\xff\xff\xff\xff", f, f[:7], framed("")} {
			checkWhole(t, f+behind, "", api.ErrForm)
		}
	}
}

// P3.3: Next's errors at 0 are told, ahead of what stands behind.
func TestWholeErrors(t *testing.T) {
	for _, c := range []struct {
		b string
		e api.Errno
	}{
		{"", api.ErrShort}, {"x", api.ErrShort}, {header(0)[:7], api.ErrShort}, {header(0), api.ErrShort},
		{header(1) + "abc", api.ErrShort}, {framed("abc")[:14], api.ErrShort},
		{"\x00\x00\x00\x00\x00\x00\x00\x00", api.ErrSum}, {"x" + framed("abc"), api.ErrSum},
		{framed("abc")[1:], api.ErrSum}, {header(3) + "abd" + crc("abc") + "behind", api.ErrSum},
		{header(16385), api.ErrLong}, {header(1<<32-1) + strings.Repeat("x", 99), api.ErrLong},
	} {
		checkWhole(t, c.b, "", c.e)
	}
}

// P3.4: what Put makes Whole reads.
func TestThereAndBack(t *testing.T) {
	n := noise(2)
	for _, body := range bodies() {
		checkWhole(t, put(t, body), body, api.OK)
	}
	for range 2000 {
		body := n.text(n.below(300))
		checkWhole(t, put(t, body), body, api.OK)
	}
}

// P3.4: every length that there is has a frame that is read.
func TestEveryLength(t *testing.T) {
	n := noise(3)
	text := n.text(api.MaxFrame)
	for length := range api.MaxFrame + 1 {
		f := put(t, text[:length])
		if body, e := Whole(f); e != api.OK || body != text[:length] || len(f) != length+12 {
			t.Fatalf("%d bytes: error %d, %d bytes of %d", length, e, len(body), len(f))
		}
	}
}

// P3.4: frames one behind the other are read one by one, to the end.
func TestRowOfFrames(t *testing.T) {
	n := noise(4)
	for range 200 {
		list := make([]string, n.below(12))
		var row strings.Builder
		for i := range list {
			list[i] = n.text(n.below(60))
			row.WriteString(put(t, list[i]))
		}
		at := 0
		for i, body := range list {
			got, to, e := Next(row.String(), at)
			if got != body || e != api.OK {
				t.Fatalf("frame %d: %q, error %d, want %q", i, got, e, body)
			}
			at = to
		}
		if at != row.Len() {
			t.Fatalf("read up to %d of %d", at, row.Len())
		}
		checkNext(t, row.String(), at, "", 0, api.ErrShort)
	}
}

// checkReadIsFrame asks Next at every place: what it reads is there the frame of what it tells.
func checkReadIsFrame(t *testing.T, b string) (count int) {
	t.Helper()
	for at := -2; at <= len(b)+2; at++ {
		want, wantTo, wantE := wantNext(b, at)
		checkNext(t, b, at, want, wantTo, wantE)
		body, to, e := Next(b, at)
		if e != api.OK {
			continue
		}
		count++
		if f := put(t, body); to < at || to > len(b) || b[at:to] != f {
			t.Errorf("at %d to %d of % x stands not the frame of %q", at, to, b, body)
		}
	}
	return count
}

// P3.4: what Next reads, at any place, is from there to the place behind it the frame of what it tells.
func TestReadIsFrame(t *testing.T) {
	n := noise(5)
	count := 0
	for range 1500 {
		var b strings.Builder
		for range n.below(5) {
			switch n.below(5) {
			case 0:
				b.WriteString(n.text(n.below(20)))
			case 1:
				b.WriteString(framed(framed(n.text(n.below(9)))))
			case 2:
				f := framed(n.text(n.below(20)))
				b.WriteString(turned(f, n.below(8*len(f)), 1))
			case 3:
				b.WriteString(header(uint32(n.below(30))) + n.text(n.below(40)))
			default:
				b.WriteString(framed(n.text(n.below(20))))
			}
		}
		count += checkReadIsFrame(t, b.String())
		want, e := wantWhole(b.String())
		checkWhole(t, b.String(), want, e)
	}
	if count < 1000 {
		t.Errorf("only %d frames were read", count)
	}
}

// P3.4: no frame begins another one, even of bodies that begin one another.
func TestNoFrameBeginsAnother(t *testing.T) {
	list := append(bodies(), "ab", "abc", "abcd", strings.Repeat("\x00", 5), strings.Repeat("\x00", 12))
	frames := make([]string, len(list))
	for i, body := range list {
		frames[i] = put(t, body)
	}
	for i, f := range frames {
		for j, g := range frames {
			if strings.HasPrefix(g, f) && list[i] != list[j] {
				t.Errorf("the frame of % x begins that of % x", short(list[i]), short(list[j]))
			}
		}
	}
}

// P3.5: a frame cut anywhere at its end is refused.
func TestCut(t *testing.T) {
	for _, body := range bodies() {
		f := put(t, body)
		for cut := range len(f) {
			checkWhole(t, f[:cut], "", api.ErrShort)
			checkNext(t, f[:cut], 0, "", 0, api.ErrShort)
		}
	}
}

// turned is s with the bits of burst turned, burst's lowest bit at the bit first of s.
func turned(s string, first int, burst uint64) string {
	b := []byte(s)
	for i := first; burst != 0; i++ {
		if burst&1 == 1 {
			b[i/8] ^= 1 << (i % 8)
		}
		burst >>= 1
	}
	return string(b)
}

// checkBurst lays a burst of that length on f, its first bit at each bit of f
// from begin on and ahead of end, where it fits.
func checkBurst(t *testing.T, f string, burst uint64, length, begin, end int) {
	t.Helper()
	for first := begin; first < min(end, 8*len(f)-length+1); first++ {
		b := turned(f, first, burst)
		if body, e := Whole(b); e == api.OK || body != "" {
			t.Fatalf("% x..: bits %#x from %d on are turned, and %d bytes are read, error %d", short(f), burst, first, len(body), e)
		}
	}
}

// burstFrames are frames short enough for bursts on all their bits: of the
// empty one a burst may lie on both sums.
func burstFrames(t *testing.T) []string {
	n := noise(6)
	var list []string
	for _, body := range []string{"", "\x00", "ab", "abcd", "\x00\x00\x00\x00\x00", "\xff\xff\xff\xff\xff\xff", framed(""), n.text(21)} {
		list = append(list, put(t, body))
	}
	return list
}

// P3.5: one bit, two bits at every distance up to 31, and all bits between them, on all places.
func TestBurstEnds(t *testing.T) {
	for _, f := range burstFrames(t) {
		checkBurst(t, f, 1, 1, 0, 8*len(f))
		for apart := 1; apart <= 31; apart++ {
			checkBurst(t, f, 1|1<<apart, apart+1, 0, 8*len(f))
			checkBurst(t, f, 1<<(apart+1)-1, apart+1, 0, 8*len(f))
		}
	}
}

// P3.5: every burst of up to nine bits, on all places.
func TestBurstShort(t *testing.T) {
	for _, f := range burstFrames(t) {
		for length := 2; length <= 9; length++ {
			for inner := range uint64(1) << (length - 2) {
				checkBurst(t, f, 1|inner<<1|1<<(length-1), length, 0, 8*len(f))
			}
		}
	}
}

// P3.5: bursts of all lengths, with any bits between their ends, on all places.
func TestBurstAny(t *testing.T) {
	n := noise(7)
	for _, f := range burstFrames(t) {
		for length := 2; length <= 32; length++ {
			for range 25 {
				inner := n.next() & (1<<(length-1) - 1)
				checkBurst(t, f, inner|1|1<<(length-1), length, 0, 8*len(f))
			}
		}
	}
}

// P3.5: the sum's own rule has 33 bits; without its first or its last one it is
// seen everywhere, also where it lies across the body and a sum.
func TestBurstOfTheRule(t *testing.T) {
	const rule = 1 | 0x82f63b78<<1
	for _, f := range burstFrames(t) {
		checkBurst(t, f, rule&^(1<<32), 32, 0, 8*len(f))
		checkBurst(t, f, rule>>1, 32, 0, 8*len(f))
	}
}

// P3.5: a length that is turned into another one, and yet the bytes of a body
// and its sum stand behind it: the first sum refuses it.
func TestLengthTurned(t *testing.T) {
	inner := "ab" + crc("ab")
	f := put(t, inner+"cdef"+crc("abcdef"))
	for bit := range 32 {
		b := turned(f, bit, 1)
		if body, e := Whole(b); e != api.ErrSum || body != "" {
			t.Errorf("bit %d: %q, error %d", bit, body, e)
		}
	}
	// The same bytes behind a right length of 2 are that frame, with more behind it.
	checkNext(t, header(2)+f[8:], 0, "ab", 14, api.OK)
}

// P3.5: the longest frame, at its length, its sums, and the ends and the middle of its body.
func TestBurstLongest(t *testing.T) {
	n := noise(8)
	f := put(t, n.text(api.MaxFrame))
	end := 8 * len(f)
	for _, from := range []int{0, 24, 56, 90, 8192, 8 * 8000, end - 70, end - 40, end - 32} {
		for range 12 {
			length := 1 + n.below(32)
			inner := n.next() & (1<<length - 1)
			checkBurst(t, f, inner|1|1<<(length-1), length, from, from+9)
		}
	}
}

// P3.2, P3.3: any bytes, and frames to which anything was done, are read as the words say.
func TestAnyBytes(t *testing.T) {
	n := noise(9)
	for range 20000 {
		b := []byte(framed(n.text(n.below(30))))
		for range n.below(4) {
			b[n.below(len(b))] = byte(n.next())
		}
		s := string(b[:len(b)-n.below(3)*n.below(len(b))/2]) + n.text(n.below(2)*n.below(20))
		at := n.below(len(s)+3) - 1
		for _, place := range []int{0, at} {
			want, to, e := wantNext(s, place)
			checkNext(t, s, place, want, to, e)
		}
		want, e := wantWhole(s)
		checkWhole(t, s, want, e)
		if t.Failed() {
			t.Fatalf("at % x", s)
		}
	}
}

// R3: what is answered hangs on the arguments alone.
func TestSameAgain(t *testing.T) {
	f := put(t, "the same")
	if _, _, e := Next(f[:9], 0); e != api.ErrShort {
		t.Errorf("cut: %d", e)
	}
	if _, e := Put(strings.Repeat("x", 16385)); e != api.ErrLong {
		t.Errorf("long: %d", e)
	}
	if again := put(t, "the same"); again != f {
		t.Errorf("% x, then % x", f, again)
	}
	for range 3 {
		checkNext(t, f, 0, "the same", 20, api.OK)
		checkWhole(t, f, "the same", api.OK)
	}
}
