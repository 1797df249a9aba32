package msg_test

import (
	"encoding/binary"
	"slices"
	"strings"
	"testing"

	"meter/api"
	"meter/frame"
	"meter/msg"
)

// checkRead holds Read of b, and Of of its frame, against a message and an error.
func checkRead(t *testing.T, b string, want api.Msg, e api.Errno) {
	t.Helper()
	if got, gotE := msg.Read(b); gotE != e || !wantSame(got, want) {
		t.Errorf("% x.. (%d) is read as %s, error %d; want %s, error %d", short(b), len(b), told(got), gotE, told(want), e)
	}
	data, putE := frame.Put(b)
	if putE != api.OK {
		return
	}
	if got, gotE := msg.Of(data); gotE != e || !wantSame(got, want) {
		t.Errorf("the frame of % x.. (%d) is read as %s, error %d; want %s, error %d", short(b), len(b), told(got), gotE, told(want), e)
	}
}

// checkWrong is for bytes that are no message's.
func checkWrong(t *testing.T, b string, e api.Errno) {
	t.Helper()
	if _, want := wantRead(b); want != e {
		t.Fatalf("the words say %d, not %d: % x.. (%d)", want, e, short(b), len(b))
	}
	checkRead(t, b, api.Msg{}, e)
}

// P4.2: the chapter's examples.
func TestReadExamples(t *testing.T) {
	checkRead(t, "\x0c\x01\x02", api.Msg{Kind: api.MAbort, Move: 1, Part: 2}, api.OK)
	checkRead(t, "\x0c\x01", api.Msg{}, api.ErrShort)
	checkRead(t, "\x0c\x01\x02\x00", api.Msg{}, api.ErrForm)
	checkRead(t, "\x0f\x01\x02", api.Msg{}, api.ErrKind)
	checkRead(t, "", api.Msg{}, api.ErrShort)
}

// someMessages is right ones of all kinds, bare, short and of many bytes.
func someMessages() []api.Msg {
	n := noise(2)
	var list []api.Msg
	for _, kind := range kinds() {
		list = append(list, api.Msg{Kind: kind}, sample(kind))
		for range 4 {
			list = append(list, n.message(kind))
		}
	}
	for _, c := range byHand() {
		list = append(list, c.m)
	}
	return list
}

// P4.2: the bytes of a message of each kind, cut at every place.
func TestCut(t *testing.T) {
	for _, m := range someMessages() {
		b := rawBytes(m)
		for cut := range len(b) {
			checkWrong(t, b[:cut], api.ErrShort)
		}
	}
}

// P4.2: bytes behind a message.
func TestBytesBehind(t *testing.T) {
	for _, m := range someMessages() {
		b := rawBytes(m)
		for _, behind := range []string{"\x00", "\x01", "\x80", "\xff", b, strings.Repeat("\x00", 2000)} {
			checkWrong(t, b+behind, api.ErrForm)
		}
	}
}

// P4.2: a kind that is none, whatever stands behind it, or nothing.
func TestReadKindThatIsNone(t *testing.T) {
	for kind := range 256 {
		if fieldsOf(uint8(kind)) != nil {
			continue
		}
		for _, behind := range []string{"", "\x01", "\x01\x02", "\x80", "\x80\x00", "\xff\xff\xff\xff\xff\xff\xff\xff\xff\xff", strings.Repeat("x", 3000)} {
			checkWrong(t, string([]byte{byte(kind)})+behind, api.ErrKind)
		}
	}
}

// fault is bytes in place of a field's, and the error of what reads them; behind
// an ErrShort nothing may stand.
type fault struct {
	b string
	e api.Errno
}

// tooMuch is the ways in which a number is one that is no number, or above most.
func tooMuch(most uint64) []fault {
	num := func(n uint64) string { return string(binary.AppendUvarint(nil, n)) }
	return []fault{
		{num(most + 1), api.ErrForm},
		{num(1 << 32), api.ErrForm},
		{num(1<<63 + 1), api.ErrForm},
		{num(1<<64 - 1), api.ErrForm},
	}
}

// noNumber is what is a number nowhere.
func noNumber() []fault {
	return []fault{
		{"\x80\x00", api.ErrForm},
		{"\x81\x00", api.ErrForm},
		{"\xff\xff\x80\x00", api.ErrForm},
		{"\x80\x80\x80\x80\x80\x80\x80\x80\x80\x02", api.ErrForm},
		{"\xff\xff\xff\xff\xff\xff\xff\xff\xff\x80", api.ErrForm},
		{strings.Repeat("\x80", 20), api.ErrForm},
		{"\x80", api.ErrShort},
		{"\xff\xff\xff\xff\xff\xff\xff\xff\xff", api.ErrShort},
	}
}

// faults is what is wrong in place of a field.
func (f field) faults() []fault {
	num := func(n int) string { return string(binary.AppendUvarint(nil, uint64(n))) }
	switch f.form {
	case number:
		return append(noNumber(), tooMuch(greatest)...)
	case text:
		return append(append(noNumber(), tooMuch(uint64(f.most))...),
			fault{num(f.most+1) + strings.Repeat("x", f.most+1), api.ErrForm},
			fault{num(f.most) + strings.Repeat("x", f.most-1), api.ErrShort},
			fault{num(f.most), api.ErrShort},
			fault{num(1), api.ErrShort})
	case list:
		list := append(append(noNumber(), tooMuch(uint64(f.most))...),
			fault{num(f.most+1) + strings.Repeat("\x00", f.most+1), api.ErrForm},
			fault{num(f.most) + strings.Repeat("\x00", f.most-1), api.ErrShort},
			fault{num(f.most), api.ErrShort},
			fault{num(1), api.ErrShort})
		for _, inner := range append(noNumber(), tooMuch(greatest)...) {
			list = append(list, fault{"\x01" + inner.b, inner.e}, fault{"\x03\x00\x05" + inner.b, inner.e})
		}
		return list
	case octet:
		return nil
	}
	return noNumber()
}

// P4.2: each field of each kind wrong, the others right: behind an ErrForm the
// rest of the message, wrong bytes, or nothing.
func TestFaultInEachField(t *testing.T) {
	for _, kind := range kinds() {
		for _, m := range []api.Msg{{Kind: kind}, sample(kind)} {
			ahead := string([]byte{kind})
			for _, f := range fieldsOf(kind) {
				own := string(f.bytesOf(m))
				rest := rawBytes(m)[len(ahead)+len(own):]
				for _, wrong := range f.faults() {
					checkWrong(t, ahead+wrong.b, wrong.e)
					if wrong.e == api.ErrForm {
						checkWrong(t, ahead+wrong.b+rest, api.ErrForm)
						checkWrong(t, ahead+wrong.b+"\x80", api.ErrForm)
						checkWrong(t, ahead+wrong.b+rest+"\x00", api.ErrForm)
					}
				}
				ahead += own
			}
		}
	}
}

// P4.2: of two faults the first one is told, also where the bytes end too soon behind it.
func TestFirstFault(t *testing.T) {
	for _, c := range []struct {
		name string
		b    string
		e    api.Errno
	}{
		{"a Move too long written, and no Part", "\x0c\x80\x00", api.ErrForm},
		{"a Move above its bound, and no Part", "\x0c\x80\x80\x80\x80\x08", api.ErrForm},
		{"the greatest Move, and no Part", "\x0c\xff\xff\xff\xff\x07", api.ErrShort},
		{"a Move that ends too soon", "\x0c\x80", api.ErrShort},
		{"Data of 1025 that are not there", "\x05\x01\x02\x03\x04\x81\x08", api.ErrForm},
		{"Data of 1024 that are not there", "\x05\x01\x02\x03\x04\x80\x08", api.ErrShort},
		{"a Key of 256 that is not there", "\x01\x01\x02\x03\x01\x80\x02", api.ErrForm},
		{"a Key of 255 that is not there", "\x01\x01\x02\x03\x01\xff\x01", api.ErrShort},
		{"65 Owners that are not there", "\x0e\x01\x01\x41", api.ErrForm},
		{"64 Owners that are not there", "\x0e\x01\x01\x40", api.ErrShort},
		{"a Set of 1025 that is not there", "\x06\x01\x02\x03\x81\x08", api.ErrForm},
		{"a Set of 1024 that is not there", "\x06\x01\x02\x03\x80\x08", api.ErrShort},
		{"of two Owners one above its bound, and no other", "\x0e\x01\x01\x02\x80\x80\x80\x80\x08", api.ErrForm},
		{"of two Owners the greatest one, and no other", "\x0e\x01\x01\x02\xff\xff\xff\xff\x07", api.ErrShort},
		{"a Digest too long written, with more behind", "\x09\x01\x02\x03\x00\x80\x00\x00", api.ErrForm},
		{"an At of eleven bytes", "\x09\x01\x02\x03\x80\x80\x80\x80\x80\x80\x80\x80\x80\x80\x01", api.ErrForm},
		{"a Digest that ends too soon", "\x09\x01\x02\x03\x00\x80", api.ErrShort},
		{"an item's Kind that is not there", "\x01\x01\x02\x03", api.ErrShort},
	} {
		t.Run(c.name, func(t *testing.T) { checkWrong(t, c.b, c.e) })
	}
}

// P4.3: the errors of frame.Whole come ahead of Read's.
func TestOfFrames(t *testing.T) {
	body := "\x0c\x01\x02"
	f, _ := frame.Put(body)
	spoilt := []byte(f)
	spoilt[9] ^= 1
	headless := []byte(f)
	headless[0] ^= 1
	badBody, _ := frame.Put("\x0f")
	for _, c := range []struct {
		name string
		data string
		m    api.Msg
		e    api.Errno
	}{
		{"a frame", f, api.Msg{Kind: api.MAbort, Move: 1, Part: 2}, api.OK},
		{"nothing", "", api.Msg{}, api.ErrShort},
		{"no frame", body, api.Msg{}, api.ErrShort},
		{"a frame without its end", f[:len(f)-1], api.Msg{}, api.ErrShort},
		{"a spoilt body", string(spoilt), api.Msg{}, api.ErrSum},
		{"a spoilt length", string(headless), api.Msg{}, api.ErrSum},
		{"a length above MaxFrame", strings.Repeat("\xff", 8), api.Msg{}, api.ErrLong},
		{"more behind the frame", f + "\x00", api.Msg{}, api.ErrForm},
		{"more behind a frame of no message", badBody + "\x00", api.Msg{}, api.ErrForm},
		{"a frame of no kind", badBody, api.Msg{}, api.ErrKind},
	} {
		t.Run(c.name, func(t *testing.T) {
			got, e := msg.Of(c.data)
			if e != c.e || !wantSame(got, c.m) {
				t.Errorf("%s, error %d; want %s, error %d", told(got), e, told(c.m), c.e)
			}
			if _, whole := frame.Whole(c.data); whole != api.OK && whole != e {
				t.Errorf("frame.Whole answers %d", whole)
			}
		})
	}
}

// P4.3: the bytes in a frame, by hand; a frame of no bytes is read as no bytes are.
func TestDataByHand(t *testing.T) {
	data, e := msg.Data(api.Msg{Kind: api.MAbort, Move: 1, Part: 2})
	if e != api.OK || len(data) != 15 || data[:4] != "\x03\x00\x00\x00" || data[8:11] != "\x0c\x01\x02" {
		t.Errorf("% x, error %d", data, e)
	}
	empty, _ := frame.Put("")
	if m, e := msg.Of(empty); e != api.ErrShort || !wantSame(m, api.Msg{}) {
		t.Errorf("of an empty frame: %s, error %d", told(m), e)
	}
}

// P4.3: a message in a frame of which bytes are missing, or one bit is turned, is refused.
func TestOfSpoilt(t *testing.T) {
	for _, c := range byHand() {
		data, _ := msg.Data(c.m)
		for cut := range len(data) {
			if m, e := msg.Of(data[:cut]); e != api.ErrShort || !wantSame(m, api.Msg{}) {
				t.Fatalf("kind %d cut at %d: error %d", c.m.Kind, cut, e)
			}
		}
		for bit := range 8 * len(data) {
			b := []byte(data)
			b[bit/8] ^= 1 << (bit % 8)
			if m, e := msg.Of(string(b)); e == api.OK || !wantSame(m, api.Msg{}) {
				t.Fatalf("kind %d, bit %d turned: error %d", c.m.Kind, bit, e)
			}
		}
	}
}

// checkAnyBytes holds Read of any bytes against the words, and what it reads
// against P4.4; it tells whether they are a message's.
func checkAnyBytes(t *testing.T, b string) bool {
	t.Helper()
	want, e := wantRead(b)
	checkRead(t, b, want, e)
	m, got := msg.Read(b)
	if got != api.OK {
		if got != api.ErrShort && got != api.ErrForm && got != api.ErrKind {
			t.Errorf("% x.. is wrong in another way: %d", short(b), got)
		}
		return false
	}
	if right := msg.Right(m); right != api.OK {
		t.Errorf("% x.. is read as what is not right, %d: %s", short(b), right, told(m))
	}
	if again, e := msg.Bytes(m); e != api.OK || again != b {
		t.Errorf("% x.. is read as what has the bytes % x.., error %d", short(b), short(again), e)
	}
	return true
}

// P4.2, P4.4: bytes of messages to which anything was done, and any bytes.
func TestReadAnyBytes(t *testing.T) {
	n := noise(3)
	some := someMessages()
	count := 0
	for range 40000 {
		b := []byte(rawBytes(some[n.below(len(some))]))
		for range n.below(4) {
			at := n.below(len(b) + 1)
			switch n.below(3) {
			case 0:
				b = slices.Insert(b, at, byte(n.next()>>n.below(8)))
			case 1:
				b = slices.Delete(b, min(at, len(b)), min(at+1, len(b)))
			default:
				b = append(b[:min(at, len(b))], n.text(max(0, len(b)-at))...)
			}
		}
		if checkAnyBytes(t, string(b)) {
			count++
		}
		checkAnyBytes(t, string([]byte{byte(n.below(17))})+n.text(n.below(12)))
		if t.Failed() {
			return
		}
	}
	if count < 5000 {
		t.Errorf("only %d texts were a message's", count)
	}
}

// P4.2, P4.4: all texts of up to two bytes, and some of three and four in which one byte is any.
func TestReadShortTexts(t *testing.T) {
	checkAnyBytes(t, "")
	for a := range 256 {
		checkAnyBytes(t, string([]byte{byte(a)}))
		for b := range 256 {
			checkAnyBytes(t, string([]byte{byte(a), byte(b)}))
			if a < 16 {
				checkAnyBytes(t, string([]byte{byte(a), byte(b), 0}))
				checkAnyBytes(t, string([]byte{byte(a), 0, byte(b)}))
				checkAnyBytes(t, string([]byte{byte(a), 1, 1, byte(b)}))
			}
		}
	}
}

// neighbours is m and what differs from it in a field or in its kind, right or not.
func neighbours(m api.Msg) []api.Msg {
	list := []api.Msg{m, tidy(m)}
	for _, f := range fieldsOf(m.Kind) {
		for _, v := range f.inside()[:3] {
			other := tidy(m)
			f.set(&other, v)
			list = append(list, other)
		}
	}
	for _, kind := range kinds() {
		other := tidy(m)
		other.Kind = kind
		list = append(list, other)
	}
	return list
}

// P4.4: two right messages have one text of bytes just if they are the same.
func TestOneTextEach(t *testing.T) {
	var list []api.Msg
	for _, kind := range kinds() {
		list = append(list, neighbours(api.Msg{Kind: kind})...)
		list = append(list, neighbours(sample(kind))...)
		// A value that stands now in the one field, now in the other.
		for _, f := range fieldsOf(kind) {
			m := api.Msg{Kind: kind}
			f.set(&m, f.inside()[1])
			list = append(list, m)
		}
	}
	var right []api.Msg
	var texts []string
	for _, m := range list {
		if b, e := msg.Bytes(m); e == api.OK {
			right, texts = append(right, m), append(texts, b)
		}
	}
	equal := 0
	for i, a := range right {
		for j, b := range right {
			same := msg.Same(a, b)
			if (texts[i] == texts[j]) != same {
				t.Fatalf("Same is %v: % x, % x", same, texts[i], texts[j])
			}
			if same && i != j {
				equal++
			}
		}
	}
	if len(right) < 200 || equal < 100 {
		t.Errorf("only %d messages, %d pairs that are the same", len(right), equal)
	}
}

// R4: the lists and texts of one answer share nothing with another one's.
func TestReadAnswersNewMemory(t *testing.T) {
	for _, kind := range []uint8{api.MRedirect, api.MChunks, api.MCommit, api.MTable} {
		b := rawBytes(sample(kind))
		first, _ := msg.Read(b)
		second, _ := msg.Read(b)
		for _, l := range [][]int{first.Set, first.Table.Owner} {
			for i := range l {
				l[i] = -5
			}
			_ = append(l, 99)
		}
		third, _ := msg.Read(b)
		if !wantSame(second, sample(kind)) || !wantSame(third, sample(kind)) {
			t.Errorf("kind %d: %s, %s", kind, told(second), told(third))
		}
	}
}

// R3: what is answered hangs on the arguments alone.
func TestSameAgain(t *testing.T) {
	for _, c := range byHand() {
		for range 2 {
			msg.Bytes(api.Msg{Kind: api.MAbort, Move: -1})
			msg.Read("\x0c\x80\x00")
			msg.Read("\xff")
			checkWrite(t, c.m, c.b, api.OK)
			checkRead(t, c.b, c.m, api.OK)
		}
	}
}
