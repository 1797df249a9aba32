package sum

import (
	"hash/crc32"
	"strings"
	"testing"
)

// slow is the chapter's own words, bit by bit.
func slow(sum uint32, s string) uint32 {
	register := ^sum
	for i := 0; i < len(s); i++ {
		register ^= uint32(s[i])
		for bit := 0; bit < 8; bit++ {
			if register&1 == 1 {
				register = register>>1 ^ 0x82f63b78
			} else {
				register >>= 1
			}
		}
	}
	return ^register
}

// noise is a row of numbers that look like chance and are the same each time.
type noise uint64

func (n *noise) next() uint64 {
	*n += 0x9e3779b97f4a7c15
	z := uint64(*n)
	z = (z ^ z>>30) * 0xbf58476d1ce4e5b9
	z = (z ^ z>>27) * 0x94d049bb133111eb
	return z ^ z>>31
}

func (n *noise) text(length int) string {
	b := make([]byte, length)
	for i := range b {
		b[i] = byte(n.next())
	}
	return string(b)
}

func allBytes() string {
	b := make([]byte, 256)
	for i := range b {
		b[i] = byte(i)
	}
	return string(b)
}

func texts() []string {
	n := noise(1)
	list := []string{
		"", "\x00", "\xff", "a", "123456789", "\x00\x00\x00\x00", "\xff\xff\xff\xff",
		"not UTF-8: \xc3\x28 \x80", "gr\u00fc\u00dfe", allBytes(), strings.Repeat("\x00", 300),
	}
	for length := range 40 {
		list = append(list, n.text(length))
	}
	return append(list, n.text(1<<12))
}

func sums() []uint32 {
	n := noise(2)
	list := []uint32{0, 1, 7, 15, 16, 1 << 31, 1<<32 - 1, 0x82f63b78, ^uint32(0x82f63b78), 0xe3069283}
	for range 20 {
		list = append(list, uint32(n.next()))
	}
	return list
}

// P1.1: the chapter's examples.
func TestExamples(t *testing.T) {
	for _, c := range []struct {
		text string
		want uint32
	}{{"", 0}, {"123456789", 0xe3069283}, {"a", 0xc1d04330}} {
		if got := Crc(c.text); got != c.want {
			t.Errorf("Crc(%q) is %#08x, want %#08x", c.text, got, c.want)
		}
	}
}

// P1.1: Crc is what the chapter's words make of a text; every byte value alone, and many texts.
func TestCrcIsTheSum(t *testing.T) {
	library := crc32.MakeTable(crc32.Castagnoli)
	list := texts()
	for b := range 256 {
		list = append(list, string([]byte{byte(b)}), string([]byte{'x', byte(b), 'y'}))
	}
	for _, s := range list {
		got := Crc(s)
		if want := slow(0, s); got != want {
			t.Errorf("Crc(%q) is %#08x, bit by bit %#08x", s, got, want)
		}
		if want := crc32.Checksum([]byte(s), library); got != want {
			t.Errorf("Crc(%q) is %#08x, by the library %#08x", s, got, want)
		}
	}
}

// P1.1: More begins with the bits of any sum turned, be it a text's own or not.
func TestMoreFromAnySum(t *testing.T) {
	library := crc32.MakeTable(crc32.Castagnoli)
	for _, sum := range sums() {
		for _, s := range texts() {
			got := More(sum, s)
			if want := slow(sum, s); got != want {
				t.Errorf("More(%#08x, %q) is %#08x, bit by bit %#08x", sum, s, got, want)
			}
			if want := crc32.Update(sum, library, []byte(s)); got != want {
				t.Errorf("More(%#08x, %q) is %#08x, by the library %#08x", sum, s, got, want)
			}
		}
	}
}

// P1.1: each value of a register's lowest eight bits, met by each byte value.
func TestMoreEveryByteOnEveryLowByte(t *testing.T) {
	for low := range 256 {
		for b := range 256 {
			sum, s := 0x5a3c9600|uint32(low), string([]byte{byte(b)})
			if got, want := More(sum, s), slow(sum, s); got != want {
				t.Fatalf("More(%#08x, %q) is %#08x, want %#08x", sum, s, got, want)
			}
		}
	}
}

// P1.2: a text may be cut anywhere, at its ends too.
func TestMoreGoesOn(t *testing.T) {
	for _, s := range texts() {
		whole := Crc(s)
		for cut := range len(s) + 1 {
			if got := More(Crc(s[:cut]), s[cut:]); got != whole {
				t.Errorf("%q cut at %d: %#08x, whole %#08x", s, cut, got, whole)
			}
		}
	}
}

// P1.2: a text may be cut in three.
func TestMoreGoesOnTwice(t *testing.T) {
	s := allBytes()[100:164]
	whole := Crc(s)
	for second := range len(s) + 1 {
		for first := range second + 1 {
			if got := More(More(Crc(s[:first]), s[first:second]), s[second:]); got != whole {
				t.Errorf("cut at %d and %d: %#08x, whole %#08x", first, second, got, whole)
			}
		}
	}
}

// P1.2: nothing more changes nothing.
func TestMoreOfNothing(t *testing.T) {
	for _, sum := range sums() {
		if got := More(sum, ""); got != sum {
			t.Errorf("More(%#08x, nothing) is %#08x", sum, got)
		}
	}
}

// turned is s with the bits of burst turned, burst's lowest bit at the bit first of s.
func turned(s string, first int, burst uint64) string {
	b := []byte(s)
	for i := first; burst != 0; i++ {
		if burst&1 == 1 {
			b[i/8] ^= 1 << (i % 8)
		}
		burst >>= 1
	}
	return string(b)
}

// checkBurst lays a burst of that length on every place in s where it fits.
func checkBurst(t *testing.T, s string, burst uint64, length int) {
	t.Helper()
	was := Crc(s)
	for first := range max(0, 8*len(s)-length+1) {
		if Crc(turned(s, first, burst)) == was {
			t.Fatalf("%q: bits %#x from %d on are turned, and the sum is the same", s, burst, first)
		}
	}
}

func burstTexts() []string {
	n := noise(3)
	return []string{"\x00", "a", "ab", "abcd", "\x00\x00\x00\x00\x00\x00", "\xff\xff\xff\xff\xff\xff\xff", "123456789", n.text(21)}
}

// P1.3: one bit, two bits at every distance up to 31, and all bits between them.
func TestBurstEnds(t *testing.T) {
	for _, s := range burstTexts() {
		checkBurst(t, s, 1, 1)
		for apart := 1; apart <= 31; apart++ {
			checkBurst(t, s, 1|1<<apart, apart+1)
			checkBurst(t, s, 1<<(apart+1)-1, apart+1)
		}
	}
}

// P1.3: every burst of up to ten bits, at every place.
func TestBurstShort(t *testing.T) {
	for _, s := range burstTexts() {
		for length := 2; length <= 10; length++ {
			for inner := range uint64(1) << (length - 2) {
				checkBurst(t, s, 1|inner<<1|1<<(length-1), length)
			}
		}
	}
}

// P1.3: bursts of all lengths, with any bits between their ends.
func TestBurstAny(t *testing.T) {
	n := noise(4)
	for _, s := range burstTexts() {
		for length := 2; length <= 32; length++ {
			for range 40 {
				inner := n.next() & (1<<(length-1) - 1)
				checkBurst(t, s, inner|1|1<<(length-1), length)
			}
		}
	}
}

// P1.3: the bound is sharp: the sum's own rule, laid on a text, goes unseen, with
// 32 bits from its first bit to its last; without either of the two it is seen.
func TestBurstOfTheRule(t *testing.T) {
	const rule = 1 | 0x82f63b78<<1
	for _, s := range burstTexts() {
		checkBurst(t, s, rule&^(1<<32), 32)
		checkBurst(t, s, rule>>1, 32)
		for first := range max(0, 8*len(s)-32) {
			if Crc(turned(s, first, rule)) != Crc(s) {
				t.Errorf("%q: the rule is seen at %d", s, first)
			}
		}
	}
}

// P1.3: two texts of two bytes are never more than 15 bits apart, so no two share a sum.
func TestBurstTwoBytes(t *testing.T) {
	seen := make(map[uint32]int, 1<<16)
	for n := range 1 << 16 {
		c := Crc(string([]byte{byte(n), byte(n >> 8)}))
		if other, there := seen[c]; there {
			t.Fatalf("the texts %#x and %#x share the sum %#08x", other, n, c)
		}
		seen[c] = n
	}
}

// R3: what is answered hangs on the arguments alone.
func TestSameAgain(t *testing.T) {
	for _, s := range texts() {
		first, more := Crc(s), More(77, s)
		Crc("something else")
		More(5, "something else")
		if Crc(s) != first || More(77, s) != more {
			t.Errorf("%q has another sum the second time", s)
		}
	}
}
