package msg_test

import (
	"fmt"
	"slices"
	"strings"
	"testing"

	"meter/api"
	"meter/frame"
	"meter/msg"
)

// short is as much of a text as a failed test should tell.
func short(s string) string {
	return s[:min(len(s), 40)]
}

// told is as much of a message as a failed test should tell.
func told(m api.Msg) string {
	s := fmt.Sprintf("%#v", m)
	return s[:min(len(s), 300)]
}

// checkWrite holds Right, Bytes and Data of m against an error and bytes.
func checkWrite(t *testing.T, m api.Msg, want string, e api.Errno) {
	t.Helper()
	if got := msg.Right(m); got != e {
		t.Errorf("Right is %d, want %d: %s", got, e, told(m))
	}
	if got, gotE := msg.Bytes(m); gotE != e || got != want {
		t.Errorf("Bytes are % x.. (%d), error %d; want % x.. (%d), error %d: %s", short(got), len(got), gotE, short(want), len(want), e, told(m))
	}
	data := ""
	if e == api.OK {
		data, _ = frame.Put(want)
	}
	if got, gotE := msg.Data(m); gotE != e || got != data {
		t.Errorf("Data is % x.. (%d), error %d; want % x.. (%d), error %d: %s", short(got), len(got), gotE, short(data), len(data), e, told(m))
	}
}

// checkRefused is for a message that is not right.
func checkRefused(t *testing.T, m api.Msg, e api.Errno) {
	t.Helper()
	if want := wantRight(m); want != e {
		t.Fatalf("the words say %d, not %d: %s", want, e, told(m))
	}
	checkWrite(t, m, "", e)
}

// checkRight is for a right message: it has its bytes, and is read from them.
func checkRight(t *testing.T, m api.Msg) {
	t.Helper()
	if e := wantRight(m); e != api.OK {
		t.Fatalf("the words say %d: %s", e, told(m))
	}
	checkWrite(t, m, rawBytes(m), api.OK)
	checkRead(t, rawBytes(m), m, api.OK)
}

// P4.1: the chapter's examples.
func TestWriteExamples(t *testing.T) {
	checkWrite(t, api.Msg{Kind: api.MAbort, Move: 1, Part: 2}, "\x0c\x01\x02", api.OK)
	checkWrite(t, api.Msg{Kind: api.MForwards, Move: 1, Part: 2, N: 300}, "\x08\x01\x02\xac\x02", api.OK)
	checkWrite(t, api.Msg{Kind: api.MAbort, N: 1}, "", api.ErrArg)
	checkWrite(t, api.Msg{Kind: api.MAbort, Move: -1}, "", api.ErrArg)
	checkWrite(t, api.Msg{Kind: 0}, "", api.ErrKind)
	checkWrite(t, api.Msg{Kind: api.MItem, Item: api.Item{Key: strings.Repeat("k", 256)}}, "", api.ErrArg)
}

// byHand is a message of each kind, and its bytes as they are written by hand.
func byHand() []struct {
	m api.Msg
	b string
} {
	item := api.Item{Src: 1, Seq: 300, Low: 3, Kind: api.Add, Key: "ab", Part: 4, At: -1, N: 64}
	whose := api.Item{Src: 1, Seq: 300}
	table := api.Table{Epoch: 5, Nodes: 2, Owner: []int{0, 1, 128}}
	const itemBytes, tableBytes = "\x01\xac\x02\x03\x01\x02ab\x04\x01\x80\x01", "\x05\x02\x03\x00\x01\x80\x01"
	return []struct {
		m api.Msg
		b string
	}{
		{api.Msg{Kind: api.MItem, Item: item}, "\x01" + itemBytes},
		{api.Msg{Kind: api.MAnswer, Item: whose, Code: 4}, "\x02\x01\xac\x02\x04"},
		{api.Msg{Kind: api.MRedirect, Item: whose, Table: table}, "\x03\x01\xac\x02" + tableBytes},
		{api.Msg{Kind: api.MPrepare, Move: 1, Part: 2, To: 3}, "\x04\x01\x02\x03"},
		{api.Msg{Kind: api.MChunk, Move: 1, Part: 2, N: 3, Count: 4, Data: "d\x00e"}, "\x05\x01\x02\x03\x04\x03d\x00e"},
		{api.Msg{Kind: api.MChunks, Move: 1, Part: 2, N: 3, Set: []int{5, 300}}, "\x06\x01\x02\x03\x02\x05\xac\x02"},
		{api.Msg{Kind: api.MForward, Move: 1, Part: 2, N: 9, Item: item}, "\x07\x01\x02\x09" + itemBytes},
		{api.Msg{Kind: api.MForwards, Move: 1, Part: 2, N: 300}, "\x08\x01\x02\xac\x02"},
		{api.Msg{Kind: api.MBarrier, Move: 1, Part: 2, N: 3, At: -64, Digest: 1<<64 - 1}, "\x09\x01\x02\x03\x7f\xff\xff\xff\xff\xff\xff\xff\xff\xff\x01"},
		{api.Msg{Kind: api.MReady, Move: 1, Part: 2, Code: 1}, "\x0a\x01\x02\x01"},
		{api.Msg{Kind: api.MCommit, Move: 1, Part: 2, Table: table}, "\x0b\x01\x02" + tableBytes},
		{api.Msg{Kind: api.MAbort, Move: greatest, Part: 128}, "\x0c\xff\xff\xff\xff\x07\x80\x01"},
		{api.Msg{Kind: api.MDone, Move: 1, Part: 2}, "\x0d\x01\x02"},
		{api.Msg{Kind: api.MTable, Table: table}, "\x0e" + tableBytes},
	}
}

// P4.1, P4.2: the bytes of each kind, by hand.
func TestByHand(t *testing.T) {
	for i, c := range byHand() {
		if int(c.m.Kind) != i+1 {
			t.Fatalf("message %d is of the kind %d", i, c.m.Kind)
		}
		checkWrite(t, c.m, c.b, api.OK)
		checkRead(t, c.b, c.m, api.OK)
	}
}

// P4.1: of each kind the message without anything but its kind, and one all of whose fields are set.
func TestEachKind(t *testing.T) {
	for _, kind := range kinds() {
		checkRight(t, api.Msg{Kind: kind})
		checkRight(t, api.Msg{Kind: kind, Set: []int{}, Table: api.Table{Owner: []int{}}})
		checkRight(t, sample(kind))
	}
}

// P4.1: each field of each kind from its least to its greatest value, and beyond.
func TestFieldsThatAKindHas(t *testing.T) {
	for _, kind := range kinds() {
		for _, f := range fieldsOf(kind) {
			for _, v := range f.inside() {
				m, bare := sample(kind), api.Msg{Kind: kind}
				f.set(&m, v)
				f.set(&bare, v)
				checkRight(t, m)
				checkRight(t, bare)
			}
			for _, v := range f.beyond() {
				m, bare := sample(kind), api.Msg{Kind: kind}
				f.set(&m, v)
				f.set(&bare, v)
				checkRefused(t, m, api.ErrArg)
				checkRefused(t, bare, api.ErrArg)
			}
		}
	}
}

// P4.1: each field that a kind does not have, set to anything but zero.
func TestFieldsThatAKindHasNot(t *testing.T) {
	for _, kind := range kinds() {
		for _, f := range all() {
			if has(kind, f.name) {
				continue
			}
			for _, v := range append(f.inside(), f.beyond()...) {
				m := sample(kind)
				f.set(&m, v)
				if f.zero(m) {
					checkRight(t, m)
				} else {
					checkRefused(t, m, api.ErrArg)
				}
			}
		}
	}
}

// P4.1: no kind but 1 to 14 is one, and that is told ahead of all that is wrong besides.
func TestKindsThatAreNone(t *testing.T) {
	list := []uint8{0}
	for kind := 15; kind <= 255; kind++ {
		list = append(list, uint8(kind))
	}
	for _, kind := range list {
		checkRefused(t, api.Msg{Kind: kind}, api.ErrKind)
		checkRefused(t, api.Msg{Kind: kind, Move: 1, Part: 2}, api.ErrKind)
		for _, f := range all() {
			for _, v := range append(f.beyond(), f.inside()...) {
				m := api.Msg{Kind: kind}
				f.set(&m, v)
				if got := msg.Right(m); got != api.ErrKind {
					t.Fatalf("kind %d, %s: %d", kind, f.name, got)
				}
			}
			m := api.Msg{Kind: kind, Move: -1, Data: strings.Repeat("d", 1025)}
			checkRefused(t, m, api.ErrKind)
		}
	}
}

// P4.1: the lengths that the chapter names, on both sides of their bounds.
func TestLengths(t *testing.T) {
	text := func(length int) string { return strings.Repeat("t", length) }
	owners := func(length int) api.Table { return api.Table{Owner: make([]int, length)} }
	for _, c := range []struct {
		name string
		m    api.Msg
		e    api.Errno
	}{
		{"a Key of 255", api.Msg{Kind: api.MItem, Item: api.Item{Key: text(255)}}, api.OK},
		{"a Key of 256", api.Msg{Kind: api.MItem, Item: api.Item{Key: text(256)}}, api.ErrArg},
		{"a forwarded Key of 255", api.Msg{Kind: api.MForward, Item: api.Item{Key: text(255)}}, api.OK},
		{"a forwarded Key of 256", api.Msg{Kind: api.MForward, Item: api.Item{Key: text(256)}}, api.ErrArg},
		{"Data of 1024", api.Msg{Kind: api.MChunk, Data: text(1024)}, api.OK},
		{"Data of 1025", api.Msg{Kind: api.MChunk, Data: text(1025)}, api.ErrArg},
		{"64 Owners", api.Msg{Kind: api.MTable, Table: owners(64)}, api.OK},
		{"65 Owners", api.Msg{Kind: api.MTable, Table: owners(65)}, api.ErrArg},
		{"64 Owners in a Commit", api.Msg{Kind: api.MCommit, Table: owners(64)}, api.OK},
		{"65 Owners in a Commit", api.Msg{Kind: api.MCommit, Table: owners(65)}, api.ErrArg},
		{"64 Owners in a Redirect", api.Msg{Kind: api.MRedirect, Table: owners(64)}, api.OK},
		{"65 Owners in a Redirect", api.Msg{Kind: api.MRedirect, Table: owners(65)}, api.ErrArg},
		{"a Set of 1024", api.Msg{Kind: api.MChunks, Set: make([]int, 1024)}, api.OK},
		{"a Set of 1025", api.Msg{Kind: api.MChunks, Set: make([]int, 1025)}, api.ErrArg},
	} {
		t.Run(c.name, func(t *testing.T) {
			if c.e == api.OK {
				checkRight(t, c.m)
			} else {
				checkRefused(t, c.m, c.e)
			}
		})
	}
}

// P4.1, P4.3: the message with the most bytes fits into a frame.
func TestLongest(t *testing.T) {
	m := api.Msg{Kind: api.MChunks, Move: greatest, Part: greatest, N: greatest, Set: slices.Repeat([]int{greatest}, 1024)}
	checkRight(t, m)
	if b, _ := msg.Bytes(m); len(b) != 1+3*5+2+1024*5 {
		t.Errorf("%d bytes", len(b))
	}
}

// checkSame holds Same against what is wanted, both ways round.
func checkSame(t *testing.T, a, b api.Msg, want bool) {
	t.Helper()
	if msg.Same(a, b) != want || msg.Same(b, a) != want {
		t.Errorf("Same is %v, %v; want %v: %s, %s", msg.Same(a, b), msg.Same(b, a), want, told(a), told(b))
	}
}

// everything is a message whose fields are all set: none is right that is so.
func everything() api.Msg {
	m := api.Msg{Kind: 200}
	for _, f := range all() {
		f.set(&m, f.inside()[len(f.inside())-1])
	}
	return m
}

// P4.1: Same, on messages that differ in one field alone, right or not.
func TestSameFieldByField(t *testing.T) {
	for _, base := range []api.Msg{{}, everything(), {Kind: api.MItem}, sample(api.MForward)} {
		checkSame(t, base, tidy(base), true)
		other := base
		other.Kind++
		checkSame(t, base, other, false)
		for _, f := range all() {
			for _, v := range append(f.inside(), f.beyond()...) {
				a, b := base, tidy(base)
				f.set(&b, v)
				checkSame(t, a, b, wantSame(a, b))
				f.set(&a, v)
				checkSame(t, a, b, true)
			}
		}
	}
}

// P4.1: a list that is nil is one that is empty; others are held against each other whole.
func TestSameLists(t *testing.T) {
	lists := [][]int{nil, {}, make([]int, 0, 5), {0}, {1}, {0, 0}, {1, 0}, {0, 1}, {1, 2}, {-1}, {1 << 40}}
	for i, a := range lists {
		for j, b := range lists {
			want := i == j || i < 3 && j < 3
			checkSame(t, api.Msg{Kind: api.MChunks, Set: a}, api.Msg{Kind: api.MChunks, Set: b}, want)
			checkSame(t, api.Msg{Kind: api.MTable, Table: api.Table{Owner: a}}, api.Msg{Kind: api.MTable, Table: api.Table{Owner: b}}, want)
			checkSame(t, api.Msg{Set: a}, api.Msg{Table: api.Table{Owner: b}}, i < 3 && j < 3)
		}
	}
}

// P4.1, R4: what is handed in, its spare room too, is not changed.
func TestWriteChangesNothing(t *testing.T) {
	for _, length := range []int{0, 3, 64, 65} {
		room := make([]int, 2000)
		for i := range room {
			room[i] = i + 1
		}
		was := slices.Clone(room)
		for _, m := range []api.Msg{
			{Kind: api.MChunks, Set: room[:length]},
			{Kind: api.MChunks, Set: room[:length], To: 1},
			{Kind: api.MTable, Table: api.Table{Owner: room[:length]}},
			{Kind: api.MAbort, Table: api.Table{Owner: room[:length]}},
			{Kind: 0, Set: room[:length]},
		} {
			msg.Right(m)
			msg.Bytes(m)
			msg.Data(m)
			msg.Same(m, m)
			if !slices.Equal(room, was) || !slices.Equal(m.Set, was[:len(m.Set)]) || !slices.Equal(m.Table.Owner, was[:len(m.Table.Owner)]) {
				t.Fatalf("changed: %s", told(m))
			}
		}
	}
}

// P4.1: messages of any values, right ones and such in which a field or two are changed.
func TestWriteAnyMessage(t *testing.T) {
	n := noise(1)
	count := map[api.Errno]int{}
	for range 20000 {
		m := n.message(uint8(1 + n.below(14)))
		for range n.below(3) {
			f := all()[n.below(len(all()))]
			values := append(f.inside(), f.beyond()...)
			f.set(&m, values[n.below(len(values))])
		}
		if n.below(20) == 0 {
			m.Kind = uint8(n.next())
		}
		e := wantRight(m)
		count[e]++
		if e == api.OK {
			checkRight(t, m)
		} else {
			checkRefused(t, m, e)
		}
		if t.Failed() {
			return
		}
	}
	if count[api.OK] < 1000 || count[api.ErrArg] < 1000 || count[api.ErrKind] < 100 {
		t.Errorf("too few of one sort: %v", count)
	}
}
