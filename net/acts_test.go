package net_test

import (
	"fmt"
	"slices"
	"testing"

	"meter/api"
	"meter/net"
)

// noise is a row of numbers that look like chance and are the same each time.
type noise uint64

func (n *noise) next() uint64 {
	*n += 0x9e3779b97f4a7c15
	z := uint64(*n)
	z = (z ^ z>>30) * 0xbf58476d1ce4e5b9
	z = (z ^ z>>27) * 0x94d049bb133111eb
	return z ^ z>>31
}

func (n *noise) below(bound int) int {
	return int(n.next() % uint64(bound))
}

func (n *noise) text(length int) string {
	b := make([]byte, length)
	for i := range b {
		b[i] = byte(n.next())
	}
	return string(b)
}

// words is a net in the chapter's words: a list of packets, and nothing else.
type words struct {
	on []api.Packet
}

func (w *words) linkOf(p api.Packet) int {
	count := 0
	for _, q := range w.on {
		if q.From == p.From && q.To == p.To {
			count++
		}
	}
	return count
}

func (w *words) post(p api.Packet) api.Errno {
	if p.From < 0 || p.From > 8 || p.To < 0 || p.To > 8 {
		return api.ErrArg
	}
	if w.linkOf(p) >= room {
		return api.ErrFull
	}
	w.on = append(w.on, p)
	return api.OK
}

func (w *words) take(i int) (api.Packet, api.Errno) {
	if i < 0 || i >= len(w.on) {
		return api.Packet{}, api.ErrNone
	}
	p := w.on[i]
	var rest []api.Packet
	rest = append(rest, w.on[:i]...)
	w.on = append(rest, w.on[i+1:]...)
	return p, api.OK
}

func (w *words) dup(i int) api.Errno {
	if i < 0 || i >= len(w.on) {
		return api.ErrNone
	}
	return w.post(w.on[i])
}

// pair is a net and what the words say of it, to which the same is done.
type pair struct {
	net   *net.Net
	words words
	// due is, by a packet's data, how often it is still to come or be lost.
	due map[string]int
	// link is, by a packet's data, which it was posted on.
	link map[string][2]int
	// came is how many came, and refused how many found no room.
	came, refused int
}

func newPair() *pair {
	return &pair{net: net.New(), due: map[string]int{}, link: map[string][2]int{}}
}

// checkPost is for data that no other packet has.
func (b *pair) checkPost(t *testing.T, p api.Packet) {
	t.Helper()
	e, want := b.net.Post(p), b.words.post(p)
	if e != want {
		t.Fatalf("Post of %s is %d; want %d", told(p), e, want)
	}
	switch e {
	case api.OK:
		b.due[p.Data] = 1
		b.link[p.Data] = [2]int{p.From, p.To}
	case api.ErrFull:
		b.refused++
	}
}

func (b *pair) checkTake(t *testing.T, i int) {
	t.Helper()
	p, e := b.net.Take(i)
	want, wantE := b.words.take(i)
	if p != want || e != wantE {
		t.Fatalf("Take(%d) is %s, %d; want %s, %d", i, told(p), e, told(want), wantE)
	}
	if e != api.OK {
		return
	}
	if b.link[p.Data] != [2]int{p.From, p.To} || b.due[p.Data] == 0 {
		t.Fatalf("%s comes: posted on %v, %d of it are on their way", told(p), b.link[p.Data], b.due[p.Data])
	}
	b.due[p.Data]--
	b.came++
}

func (b *pair) checkLose(t *testing.T, i int) {
	t.Helper()
	e := b.net.Lose(i)
	lost, want := b.words.take(i)
	if e != want {
		t.Fatalf("Lose(%d) is %d; want %d", i, e, want)
	}
	if e == api.OK {
		b.due[lost.Data]--
	}
}

func (b *pair) checkDup(t *testing.T, i int) {
	t.Helper()
	e, want := b.net.Dup(i), b.words.dup(i)
	if e != want {
		t.Fatalf("Dup(%d) is %d; want %d", i, e, want)
	}
	switch e {
	case api.OK:
		b.due[b.words.on[i].Data]++
	case api.ErrFull:
		b.refused++
	}
}

// checkOn holds what is on its way against the words, and each link against its room.
func (b *pair) checkOn(t *testing.T) {
	t.Helper()
	checkOn(t, b.net, b.words.on...)
	links := map[[2]int]int{}
	for _, p := range b.net.All() {
		link := [2]int{p.From, p.To}
		links[link]++
		if links[link] > room {
			t.Fatalf("the link %v has more than its room", link)
		}
	}
}

// checkDrained lets all come that is left: then each came or was lost as often as it should.
func (b *pair) checkDrained(t *testing.T, n *noise) {
	t.Helper()
	for b.net.Len() > 0 {
		b.checkTake(t, n.below(b.net.Len()))
	}
	b.checkOn(t)
	for data, due := range b.due {
		if due != 0 {
			t.Fatalf("%q did not come %d times", data, due)
		}
	}
}

// kindsOfActs is how often, of a hundred acts, each is done; the rest are Dups.
type kindsOfActs struct {
	posts, takes, loses int
	// span is how many places there are links between.
	span int
}

// someActs does acts of these kinds, now and then with what is wrong.
func (b *pair) someActs(t *testing.T, n *noise, k kindsOfActs, count int) {
	t.Helper()
	for i := range count {
		number := n.below(b.net.Len()+3) - 1
		switch act := n.below(100); {
		case act < k.posts:
			p := packet(n.below(k.span), n.below(k.span), fmt.Sprint(i, " ", n.text(3)))
			if n.below(20) == 0 {
				p.From = n.below(30) - 10
			}
			if n.below(20) == 0 {
				p.To = n.below(30) - 10
			}
			b.checkPost(t, p)
		case act < k.posts+k.takes:
			b.checkTake(t, number)
		case act < k.posts+k.takes+k.loses:
			b.checkLose(t, number)
		default:
			b.checkDup(t, number)
		}
		b.checkOn(t)
	}
}

// P5.5, P5.3: any acts in any order, beside what the words say.
func TestAnyActs(t *testing.T) {
	for _, k := range []kindsOfActs{
		{posts: 25, takes: 25, loses: 25, span: 9},
		{posts: 70, takes: 10, loses: 10, span: 9},
		{posts: 70, takes: 10, loses: 10, span: 1},
		{posts: 60, takes: 15, loses: 15, span: 2},
		{posts: 10, takes: 10, loses: 10, span: 2},
		{posts: 40, takes: 40, loses: 5, span: 3},
		{posts: 40, takes: 5, loses: 40, span: 3},
	} {
		t.Run(fmt.Sprintf("%+v", k), func(t *testing.T) {
			n := noise(2)
			came, refused := 0, 0
			for range 3 {
				b := newPair()
				b.someActs(t, &n, k, 1500)
				b.checkDrained(t, &n)
				came += b.came
				refused += b.refused
			}
			if came == 0 || k.span < 3 && refused == 0 {
				t.Errorf("%d came and %d found no room: too few to show anything", came, refused)
			}
		})
	}
}

// P5.5: all rows of a few acts on two links, beside what the words say.
func TestAllRowsOfFewActs(t *testing.T) {
	const kinds, most = 11, 4
	for row := range kinds * kinds * kinds * kinds {
		b := newPair()
		b.checkPost(t, packet(0, 1, "first"))
		for i := range most {
			switch act := row % kinds; {
			case act < 3:
				b.checkTake(t, act)
			case act < 6:
				b.checkLose(t, act-3)
			case act < 9:
				b.checkDup(t, act-6)
			default:
				b.checkPost(t, packet(act-9, 1, fmt.Sprint(i)))
			}
			b.checkOn(t)
			row /= kinds
		}
	}
}

// P5.5: rows of acts at the edge of a link's room, with another link beside it.
func TestAllRowsOfFewActsAtTheEdge(t *testing.T) {
	const kinds, most = 5, 4
	for row := range kinds * kinds * kinds * kinds {
		b := newPair()
		for _, p := range slices.Concat(numbered(0, 1, room-1), numbered(1, 0, 1)) {
			b.checkPost(t, p)
		}
		for i := range most {
			switch row % kinds {
			case 0:
				b.checkTake(t, 5)
			case 1:
				b.checkLose(t, 0)
			case 2:
				b.checkDup(t, 2)
			case 3:
				b.checkDup(t, room-1)
			default:
				b.checkPost(t, packet(0, 1, fmt.Sprint("new ", i)))
			}
			b.checkOn(t)
			row /= kinds
		}
	}
}
