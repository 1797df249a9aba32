package msg_test

import (
	"encoding/binary"
	"math"
	"reflect"
	"slices"
	"strings"
	"testing"

	"meter/api"
	"meter/pack"
)

// The chapter's words as tables, and what follows from them, made in another way
// than by the package: there are no panics here, and all is done field by field.

// form is what a field is written as.
type form int

const (
	number form = iota
	wide
	integer
	octet
	text
	list
)

// field is one of a message's: most is its greatest number, or its greatest length.
type field struct {
	name string
	form form
	most int
	of   func(m *api.Msg) any
}

const greatest = 1<<31 - 1

// all is all fields of a message but its kind.
func all() []field {
	return []field{
		{"Move", number, greatest, func(m *api.Msg) any { return &m.Move }},
		{"Part", number, greatest, func(m *api.Msg) any { return &m.Part }},
		{"To", number, greatest, func(m *api.Msg) any { return &m.To }},
		{"N", number, greatest, func(m *api.Msg) any { return &m.N }},
		{"Count", number, greatest, func(m *api.Msg) any { return &m.Count }},
		{"Code", number, greatest, func(m *api.Msg) any { return &m.Code }},
		{"Digest", wide, 0, func(m *api.Msg) any { return &m.Digest }},
		{"At", integer, 0, func(m *api.Msg) any { return &m.At }},
		{"Item.Src", number, greatest, func(m *api.Msg) any { return &m.Item.Src }},
		{"Item.Seq", number, greatest, func(m *api.Msg) any { return &m.Item.Seq }},
		{"Item.Low", number, greatest, func(m *api.Msg) any { return &m.Item.Low }},
		{"Item.Kind", octet, 0, func(m *api.Msg) any { return &m.Item.Kind }},
		{"Item.Key", text, 255, func(m *api.Msg) any { return &m.Item.Key }},
		{"Item.Part", number, greatest, func(m *api.Msg) any { return &m.Item.Part }},
		{"Item.At", integer, 0, func(m *api.Msg) any { return &m.Item.At }},
		{"Item.N", integer, 0, func(m *api.Msg) any { return &m.Item.N }},
		{"Table.Epoch", number, greatest, func(m *api.Msg) any { return &m.Table.Epoch }},
		{"Table.Nodes", number, greatest, func(m *api.Msg) any { return &m.Table.Nodes }},
		{"Table.Owner", list, 64, func(m *api.Msg) any { return &m.Table.Owner }},
		{"Set", list, 1024, func(m *api.Msg) any { return &m.Set }},
		{"Data", text, 1024, func(m *api.Msg) any { return &m.Data }},
	}
}

// fieldNames is the table of kinds, each field by its name.
func fieldNames(kind uint8) (names string, there bool) {
	const (
		move  = "Move Part "
		whose = "Item.Src Item.Seq "
		item  = whose + "Item.Low Item.Kind Item.Key Item.Part Item.At Item.N "
		table = "Table.Epoch Table.Nodes Table.Owner "
	)
	names, there = map[uint8]string{
		1:  item,
		2:  whose + "Code",
		3:  whose + table,
		4:  move + "To",
		5:  move + "N Count Data",
		6:  move + "N Set",
		7:  move + "N " + item,
		8:  move + "N",
		9:  move + "N At Digest",
		10: move + "Code",
		11: move + table,
		12: move,
		13: move,
		14: table,
	}[kind]
	return names, there
}

// byKind is each kind's fields, made once: the tests ask for them again and again.
var byKind = func() (table [256][]field) {
	for kind := range table {
		table[kind] = named(uint8(kind))
	}
	return table
}()

// fieldsOf is the fields of a kind in the order of its bytes; nil, if it is none.
func fieldsOf(kind uint8) []field {
	return byKind[kind]
}

// named is a kind's fields, found by their names.
func named(kind uint8) []field {
	names, there := fieldNames(kind)
	if !there {
		return nil
	}
	var fields []field
	for _, name := range strings.Fields(names) {
		i := slices.IndexFunc(all(), func(f field) bool { return f.name == name })
		fields = append(fields, all()[i])
	}
	return fields
}

// kinds is those that there are.
func kinds() []uint8 {
	var list []uint8
	for kind := range 256 {
		if fieldsOf(uint8(kind)) != nil {
			list = append(list, uint8(kind))
		}
	}
	return list
}

// has tells whether a kind has a field.
func has(kind uint8, name string) bool {
	return slices.ContainsFunc(fieldsOf(kind), func(f field) bool { return f.name == name })
}

// set changes a field of m, without touching what m's lists share with others.
func (f field) set(m *api.Msg, v any) {
	reflect.ValueOf(f.of(m)).Elem().Set(reflect.ValueOf(v))
}

// zero tells whether a field is zero, or empty.
func (f field) zero(m api.Msg) bool {
	v := reflect.ValueOf(f.of(&m)).Elem()
	return v.IsZero() || v.Kind() == reflect.Slice && v.Len() == 0
}

// within tells whether a field is within its bounds.
func (f field) within(m api.Msg) bool {
	inside := func(n int) bool { return n >= 0 && n <= greatest }
	switch v := f.of(&m).(type) {
	case *int:
		return inside(*v)
	case *string:
		return len(*v) <= f.most
	case *[]int:
		return len(*v) <= f.most && !slices.ContainsFunc(*v, func(n int) bool { return !inside(n) })
	}
	return true
}

// wantRight is the words on Right.
func wantRight(m api.Msg) api.Errno {
	if fieldsOf(m.Kind) == nil {
		return api.ErrKind
	}
	for _, f := range all() {
		if has(m.Kind, f.name) && !f.within(m) || !has(m.Kind, f.name) && !f.zero(m) {
			return api.ErrArg
		}
	}
	return api.OK
}

// bytesOf is a field's bytes, by the library's varints, within bounds or not.
func (f field) bytesOf(m api.Msg) []byte {
	switch v := f.of(&m).(type) {
	case *int:
		return binary.AppendUvarint(nil, uint64(*v))
	case *uint64:
		return binary.AppendUvarint(nil, *v)
	case *int64:
		return binary.AppendVarint(nil, *v)
	case *uint8:
		return []byte{*v}
	case *string:
		return append(binary.AppendUvarint(nil, uint64(len(*v))), *v...)
	case *[]int:
		b := binary.AppendUvarint(nil, uint64(len(*v)))
		for _, n := range *v {
			b = binary.AppendUvarint(b, uint64(n))
		}
		return b
	}
	panic("no form of a field")
}

// rawBytes is the bytes of a message of which nothing was asked.
func rawBytes(m api.Msg) string {
	b := []byte{m.Kind}
	for _, f := range fieldsOf(m.Kind) {
		b = append(b, f.bytesOf(m)...)
	}
	return string(b)
}

// wantRead is the words on Read: pack keeps the first fault, so that all may be read on behind it.
func wantRead(b string) (api.Msg, api.Errno) {
	x := pack.Of(b)
	m := api.Msg{Kind: x.Byte()}
	if e, _ := x.Fault(); e != api.OK {
		return api.Msg{}, e
	}
	if fieldsOf(m.Kind) == nil {
		return api.Msg{}, api.ErrKind
	}
	for _, f := range fieldsOf(m.Kind) {
		switch v := f.of(&m).(type) {
		case *int:
			*v = x.Most(f.most)
		case *uint64:
			*v = x.Num()
		case *int64:
			*v = x.Int()
		case *uint8:
			*v = x.Byte()
		case *string:
			*v = x.Text(f.most)
		case *[]int:
			*v = make([]int, x.Most(f.most))
			for i := range *v {
				(*v)[i] = x.Most(greatest)
			}
		}
	}
	if e := x.End(); e != api.OK {
		return api.Msg{}, e
	}
	return m, api.OK
}

// wantSame is the words on Same: field by field, with no nil list beside an empty one.
func wantSame(a, b api.Msg) bool {
	return reflect.DeepEqual(tidy(a), tidy(b))
}

// tidy is m with lists of its own, nil if they are empty.
func tidy(m api.Msg) api.Msg {
	m.Set = append([]int(nil), m.Set...)
	m.Table.Owner = append([]int(nil), m.Table.Owner...)
	return m
}

// noise is a row of numbers that look like chance and are the same each time.
type noise uint64

func (n *noise) next() uint64 {
	*n += 0x9e3779b97f4a7c15
	z := uint64(*n)
	z = (z ^ z>>30) * 0xbf58476d1ce4e5b9
	z = (z ^ z>>27) * 0x94d049bb133111eb
	return z ^ z>>31
}

func (n *noise) below(bound int) int {
	return int(n.next() % uint64(bound))
}

// number is of any count of bits, so that short ones come as often as long ones.
func (n *noise) number() uint64 {
	return n.next() >> n.below(64)
}

func (n *noise) text(length int) string {
	b := make([]byte, length)
	for i := range b {
		b[i] = byte(n.next())
	}
	return string(b)
}

// fill gives a field any value within its bounds.
func (n *noise) fill(m *api.Msg, f field) {
	switch v := f.of(m).(type) {
	case *int:
		*v = int(n.next() & greatest >> n.below(32))
	case *uint64:
		*v = n.number()
	case *int64:
		*v = int64(n.number())
	case *uint8:
		*v = uint8(n.next())
	case *string:
		*v = n.text(n.below(f.most + 1))
	case *[]int:
		*v = make([]int, n.below(f.most+1)>>n.below(8))
		for i := range *v {
			(*v)[i] = int(n.next() & greatest >> n.below(32))
		}
	}
}

// message is a right one of that kind, of any values.
func (n *noise) message(kind uint8) api.Msg {
	m := api.Msg{Kind: kind}
	for _, f := range fieldsOf(kind) {
		if n.below(4) > 0 {
			n.fill(&m, f)
		}
	}
	return m
}

// sample is a right message of that kind, none of whose fields is zero.
func sample(kind uint8) api.Msg {
	whole := api.Msg{
		Move: 1, Part: 2, To: 3, N: 300, Count: 4, Code: 5, Digest: 1 << 63, At: -7,
		Item:  api.Item{Src: 6, Seq: 8, Low: 9, Kind: 10, Key: "k\x00", Part: 11, At: -12, N: 1 << 40},
		Table: api.Table{Epoch: 13, Nodes: 14, Owner: []int{15, 0, 16}},
		Set:   []int{17, 200}, Data: "d\xff",
	}
	m := api.Msg{Kind: kind}
	for _, f := range fieldsOf(kind) {
		f.set(&m, reflect.ValueOf(f.of(&whole)).Elem().Interface())
	}
	return tidy(m)
}

// inside is values within the bounds of a field, from the least to the greatest.
func (f field) inside() []any {
	switch f.form {
	case number:
		return []any{0, 1, 127, 128, 1<<14 - 1, 1 << 14, 1<<21 - 1, 1 << 21, 1<<28 - 1, 1 << 28, greatest - 1, greatest}
	case wide:
		return []any{uint64(0), uint64(1), uint64(127), uint64(128), uint64(greatest), uint64(1 << 31), uint64(1<<63 - 1), uint64(1 << 63), uint64(math.MaxUint64)}
	case integer:
		return []any{int64(math.MinInt64), int64(math.MinInt64 + 1), int64(-1 << 31), int64(-65), int64(-1), int64(0), int64(1), int64(64), int64(1 << 31), int64(math.MaxInt64)}
	case octet:
		return []any{uint8(0), uint8(1), uint8(15), uint8(127), uint8(128), uint8(255)}
	case text:
		return []any{"", "\x00", "a", "\xff\x80", strings.Repeat("\x00", 127), strings.Repeat("x", 128), strings.Repeat("y", f.most-1), strings.Repeat("\xff", f.most)}
	}
	longest := slices.Repeat([]int{greatest}, f.most)
	return []any{[]int(nil), []int{}, []int{0}, []int{greatest}, []int{0, 1, 127, 128, greatest}, longest[:f.most-1], longest, make([]int, f.most)}
}

// beyond is values that are not within the bounds of a field, the nearest ones first.
func (f field) beyond() []any {
	switch f.form {
	case number:
		return []any{-1, greatest + 1, -2, 1 << 32, 1<<32 + 1, math.MaxInt64, math.MinInt64}
	case text:
		return []any{strings.Repeat("x", f.most+1), strings.Repeat("\x00", f.most+1), strings.Repeat("x", 1<<14+1), strings.Repeat("x", 1<<16)}
	case list:
		first, last := make([]int, f.most), make([]int, f.most)
		first[0], last[f.most-1] = greatest+1, -1
		return []any{make([]int, f.most+1), make([]int, 1<<15), []int{-1}, []int{greatest + 1}, []int{1, -1, 1}, []int{1, 2, 1 << 32}, first, last}
	}
	return nil
}

// The tables here are whole: all fields of a message stand in them, each once.
func TestWordsAreWhole(t *testing.T) {
	var names []string
	var walk func(prefix string, of reflect.Type)
	walk = func(prefix string, of reflect.Type) {
		for i := range of.NumField() {
			f := of.Field(i)
			if f.Type.Kind() == reflect.Struct {
				walk(prefix+f.Name+".", f.Type)
				continue
			}
			names = append(names, prefix+f.Name)
		}
	}
	walk("", reflect.TypeFor[api.Msg]())
	var here []string
	for _, f := range all() {
		here = append(here, f.name)
	}
	if !slices.Equal(names, append([]string{"Kind"}, here...)) {
		t.Errorf("a message has %v, the tables %v", names, here)
	}
	if got := kinds(); len(got) != 14 || got[0] != api.MItem || got[13] != api.MTable {
		t.Errorf("the kinds are %v", got)
	}
}
