package shardkey_test

import (
	"hash/fnv"
	"math"
	"math/big"
	"strings"
	"testing"

	"meter/api"
	"meter/shardkey"
)

// slow is the chapter's own words, in numbers that do not wrap by themselves: what
// goes on from the print n, byte by byte.
func slow(n uint64, s string) uint64 {
	number := new(big.Int).SetUint64(n)
	factor := big.NewInt(0x100000001b3)
	modulus := new(big.Int).Lsh(big.NewInt(1), 64)
	for i := 0; i < len(s); i++ {
		number.Xor(number, big.NewInt(int64(s[i])))
		number.Mul(number, factor)
		number.Mod(number, modulus)
	}
	return number.Uint64()
}

// slowPrint is the print as the chapter's words define it.
func slowPrint(s string) uint64 { return slow(0xcbf29ce484222325, s) }

// slowOf is the shard as the chapter's words define it.
func slowOf(key string, shards int) int {
	if shards < 1 {
		return 0
	}
	number := new(big.Int).SetUint64(slowPrint(key))
	return int(number.Mod(number, big.NewInt(int64(shards))).Int64())
}

// noise is a row of numbers that look like chance and are the same each time.
type noise uint64

func (n *noise) next() uint64 {
	*n += 0x9e3779b97f4a7c15
	z := uint64(*n)
	z = (z ^ z>>30) * 0xbf58476d1ce4e5b9
	z = (z ^ z>>27) * 0x94d049bb133111eb
	return z ^ z>>31
}

func (n *noise) text(length int) string {
	b := make([]byte, length)
	for i := range b {
		b[i] = byte(n.next())
	}
	return string(b)
}

func one(b int) string { return string([]byte{byte(b)}) }

func allBytes() string {
	b := make([]byte, 256)
	for i := range b {
		b[i] = byte(i)
	}
	return string(b)
}

// texts are of no byte, of few and of many, longer than a key may be too.
func texts() []string {
	n := noise(1)
	list := []string{
		"", "\x00", "\x00\x00", "\xff", "\xff\xff", "a", "ab", "ba", "a\x00", "\x00a", "123456789",
		"not UTF-8: \xc3\x28 \x80", "gr\u00fc\u00dfe", allBytes(),
		strings.Repeat("\x00", 300), strings.Repeat("\xff", 300), strings.Repeat("k", api.MaxKey+1),
	}
	for length := range 40 {
		list = append(list, n.text(length))
	}
	return append(list, n.text(1<<12))
}

// counts are numbers of shards from 1 on.
func counts() []int {
	list := []int{
		1 << 16, 1<<16 + 1, 1<<31 - 1, 1 << 31, 1<<32 - 1, 1 << 32, 1<<32 + 1,
		1000000007, 0x100000001b3, 1 << 62, 1<<62 + 1, math.MaxInt - 1, math.MaxInt,
	}
	for n := range 40 {
		list = append(list, n+1)
	}
	return list
}

// noCounts are numbers of shards below 1.
func noCounts() []int {
	return []int{0, -1, -2, -3, -7, -8, -9, -256, -1 << 31, -1 << 32, -1<<32 - 1, -0x100000001b3, math.MinInt + 1, math.MinInt}
}

// P6.1: the chapter's examples.
func TestExamples(t *testing.T) {
	for _, c := range []struct {
		text string
		want uint64
	}{{"", 0xcbf29ce484222325}, {"a", 0xaf63dc4c8601ec8c}} {
		if got := shardkey.Print(c.text); got != c.want {
			t.Errorf("Print(%q) is %#016x, want %#016x", c.text, got, c.want)
		}
	}
	for _, shards := range []int{1, 0, -3} {
		if got := shardkey.Of("a", shards); got != 0 {
			t.Errorf("Of(a, %d) is %d, want 0", shards, got)
		}
	}
}

// checkPrint holds a text's print against the chapter's words and the library's.
func checkPrint(t *testing.T, s string) {
	t.Helper()
	got := shardkey.Print(s)
	if want := slowPrint(s); got != want {
		t.Errorf("Print(%q) is %#016x, by the chapter's words %#016x", s, got, want)
	}
	h := fnv.New64a()
	h.Write([]byte(s))
	if want := h.Sum64(); got != want {
		t.Errorf("Print(%q) is %#016x, by the library %#016x", s, got, want)
	}
}

// P6.1: texts of no byte, of few, of many, and of all bytes.
func TestPrintOfTexts(t *testing.T) {
	for _, s := range texts() {
		checkPrint(t, s)
	}
}

// P6.1: each byte alone, behind others, ahead of others, and each two bytes.
func TestPrintOfEveryByte(t *testing.T) {
	for b := range 256 {
		checkPrint(t, one(b))
		checkPrint(t, "x"+one(b)+"y")
		checkPrint(t, strings.Repeat(one(b), 20))
		for c := range 256 {
			checkPrint(t, one(b)+one(c))
		}
	}
}

// P6.1: a text's print goes on from that of its beginning, wherever it is cut.
func TestPrintGoesOn(t *testing.T) {
	for _, s := range texts() {
		if len(s) > 300 {
			continue
		}
		whole := shardkey.Print(s)
		for cut := range len(s) + 1 {
			if want := slow(shardkey.Print(s[:cut]), s[cut:]); whole != want {
				t.Errorf("Print(%q) is %#016x, going on at %d %#016x", s, whole, cut, want)
			}
		}
	}
}

// P6.1: the shard is the print modulo shards, for keys and numbers of shards of all kinds.
func TestOfIsThePrintModuloShards(t *testing.T) {
	for _, key := range texts() {
		for _, shards := range counts() {
			if got, want := shardkey.Of(key, shards), slowOf(key, shards); got != want {
				t.Errorf("Of(%q, %d) is %d, want %d", key, shards, got, want)
			}
		}
	}
}

// P6.1: prints whose highest bit is set, worked out beforehand: a remainder with a sign
// would be another one.
func TestOfHighPrints(t *testing.T) {
	for _, c := range []struct {
		key    string
		shards int
		want   int
	}{
		{"", math.MaxInt, 0x4bf29ce484222326},
		{"", math.MaxInt - 1, 0x4bf29ce484222327},
		{"", 1 << 62, 0x0bf29ce484222325},
		{"a", math.MaxInt, 0x2f63dc4c8601ec8d},
		{"a", 1 << 32, 0x8601ec8c},
		{"a", 8, 4},
		{"a", 2, 0},
		{"", 8, 5},
		{"", 2, 1},
	} {
		if got := shardkey.Of(c.key, c.shards); got != c.want {
			t.Errorf("Of(%q, %d) is %#x, want %#x", c.key, c.shards, got, c.want)
		}
	}
}

// P6.1: prints with their highest bit and without, of keys of each length. (Of keys of
// one length that are short the highest bit is often the same.)
func TestOfHighAndLowPrints(t *testing.T) {
	n := noise(3)
	var high, low int
	for i := range 256 {
		key := n.text(1 + i%api.MaxKey)
		if shardkey.Print(key)>>63 == 1 {
			high++
		} else {
			low++
		}
		for _, shards := range []int{3, 7, math.MaxInt} {
			if got, want := shardkey.Of(key, shards), slowOf(key, shards); got != want {
				t.Errorf("Of(%q, %d) is %d, want %d", key, shards, got, want)
			}
		}
	}
	if high == 0 || low == 0 {
		t.Errorf("%d prints have their highest bit, %d have not: the test tells too little", high, low)
	}
}

// P6.1: without a shard it is 0, whatever the key.
func TestOfNoShards(t *testing.T) {
	for _, key := range texts() {
		for _, shards := range noCounts() {
			if got := shardkey.Of(key, shards); got != 0 {
				t.Errorf("Of(%q, %d) is %d, want 0", key, shards, got)
			}
		}
	}
}

// P6.2: it is one of the shards, for any keys and any numbers of shards.
func TestOfIsOneOfTheShards(t *testing.T) {
	n := noise(2)
	list := counts()
	for range 2000 {
		list = append(list, int(n.next()>>1>>(n.next()%63))|1)
	}
	for _, shards := range list {
		for range 20 {
			key := n.text(int(n.next() % (2 * api.MaxKey)))
			if got := shardkey.Of(key, shards); got < 0 || got >= shards {
				t.Errorf("Of(%q, %d) is %d", key, shards, got)
			}
		}
	}
}

// P6.2: the same key has the same shard each time, whatever was asked between, and
// wherever the key's bytes lie.
func TestOfIsTheSameEachTime(t *testing.T) {
	type asked struct {
		key    string
		shards int
	}
	first := map[asked]int{}
	prints := map[string]uint64{}
	for _, key := range texts() {
		prints[key] = shardkey.Print(key)
		for _, shards := range append(counts(), noCounts()...) {
			first[asked{key, shards}] = shardkey.Of(key, shards)
		}
	}
	for range 2 {
		// A map is gone through in another order each time.
		for a, want := range first {
			if got := shardkey.Of(strings.Clone(a.key), a.shards); got != want {
				t.Errorf("Of(%q, %d) is %d, and was %d", a.key, a.shards, got, want)
			}
		}
		for key, want := range prints {
			if got := shardkey.Print(("-" + key + "-")[1 : len(key)+1]); got != want {
				t.Errorf("Print(%q) is %#016x, and was %#016x", key, got, want)
			}
		}
	}
}

// P6.2: each shard of at most MaxShards has a key of one byte.
func TestEachShardHasAKeyOfOneByte(t *testing.T) {
	for shards := 1; shards <= api.MaxShards; shards++ {
		keys := make([]int, shards)
		for b := range 256 {
			got := shardkey.Of(one(b), shards)
			if got < 0 || got >= shards {
				t.Fatalf("Of(%q, %d) is %d", one(b), shards, got)
			}
			keys[got]++
		}
		for shard, n := range keys {
			if n == 0 {
				t.Errorf("the shard %d of %d has no key of one byte", shard, shards)
			}
		}
	}
}
