package net_test

import (
	"fmt"
	"math"
	"slices"
	"strings"
	"testing"

	"meter/api"
	"meter/net"
)

const (
	places = 9
	room   = 64
)

func packet(from, to int, data string) api.Packet {
	return api.Packet{From: from, To: to, Data: data}
}

// told is as much of a packet as a failed test should tell.
func told(p api.Packet) string {
	return fmt.Sprintf("%d %d %.40q", p.From, p.To, p.Data)
}

// short is as much of some packets as a failed test should tell.
func short(list []api.Packet) string {
	s := fmt.Sprint(len(list), " packets")
	for _, p := range list[:min(len(list), 10)] {
		s += ", " + told(p)
	}
	return s
}

// checkOn holds what is on its way against what should be.
func checkOn(t *testing.T, x *net.Net, want ...api.Packet) {
	t.Helper()
	if got := x.All(); !slices.Equal(got, want) {
		t.Fatalf("on their way are %s; want %s", short(got), short(want))
	}
	if got := x.Len(); got != len(want) {
		t.Fatalf("Len is %d; want %d", got, len(want))
	}
}

func checkPost(t *testing.T, x *net.Net, p api.Packet, want api.Errno) {
	t.Helper()
	if e := x.Post(p); e != want {
		t.Fatalf("Post of %s is %d; want %d", told(p), e, want)
	}
}

func checkTake(t *testing.T, x *net.Net, i int, want api.Packet, wantE api.Errno) {
	t.Helper()
	if p, e := x.Take(i); p != want || e != wantE {
		t.Fatalf("Take(%d) is %s, %d; want %s, %d", i, told(p), e, told(want), wantE)
	}
}

func checkLose(t *testing.T, x *net.Net, i int, want api.Errno) {
	t.Helper()
	if e := x.Lose(i); e != want {
		t.Fatalf("Lose(%d) is %d; want %d", i, e, want)
	}
}

func checkDup(t *testing.T, x *net.Net, i int, want api.Errno) {
	t.Helper()
	if e := x.Dup(i); e != want {
		t.Fatalf("Dup(%d) is %d; want %d", i, e, want)
	}
}

// withPosted is a net on which these are on their way.
func withPosted(t *testing.T, list ...api.Packet) *net.Net {
	t.Helper()
	x := net.New()
	for _, p := range list {
		checkPost(t, x, p, api.OK)
	}
	checkOn(t, x, list...)
	return x
}

// numbered is packets of one link, each with data of its own.
func numbered(from, to, count int) []api.Packet {
	var list []api.Packet
	for i := range count {
		list = append(list, packet(from, to, fmt.Sprint(from, to, i)))
	}
	return list
}

// P5.1, P5.2, P5.3: the chapter's first example.
func TestExampleOfComing(t *testing.T) {
	x := net.New()
	checkPost(t, x, packet(0, 8, "a"), api.OK)
	checkPost(t, x, packet(8, 0, "b"), api.OK)
	checkDup(t, x, 0, api.OK)
	checkTake(t, x, 0, packet(0, 8, "a"), api.OK)
	if n := x.Len(); n != 2 {
		t.Errorf("Len is %d", n)
	}
	checkLose(t, x, 0, api.OK)
	checkTake(t, x, 0, packet(0, 8, "a"), api.OK)
	checkTake(t, x, 0, api.Packet{}, api.ErrNone)
}

// P5.1: the chapter's second example.
func TestExampleOfPlaces(t *testing.T) {
	x := net.New()
	checkPost(t, x, packet(9, 0, "a"), api.ErrArg)
	checkPost(t, x, packet(0, -1, "a"), api.ErrArg)
	checkPost(t, x, packet(3, 3, "a"), api.OK)
	checkOn(t, x, packet(3, 3, "a"))
}

// P5.1, P5.2: the chapter's third example.
func TestExampleOfRoom(t *testing.T) {
	x := net.New()
	for range 64 {
		checkPost(t, x, packet(0, 1, "a"), api.OK)
	}
	checkPost(t, x, packet(0, 1, "a"), api.ErrFull)
	checkPost(t, x, packet(1, 0, "a"), api.OK)
	checkLose(t, x, 3, api.OK)
	checkDup(t, x, 0, api.OK)
}

// P5.1: a new net has nothing on its way.
func TestNew(t *testing.T) {
	x := net.New()
	if x == nil {
		t.Fatal("New is nil")
	}
	checkOn(t, x)
	for _, i := range []int{-1, 0, 1, 64} {
		checkTake(t, x, i, api.Packet{}, api.ErrNone)
		checkLose(t, x, i, api.ErrNone)
		checkDup(t, x, i, api.ErrNone)
	}
	checkOn(t, x)
}

// P5.1: From and To, each at every place, at the edges and far beyond, with each other.
func TestPlaces(t *testing.T) {
	if api.Places != places || api.MaxLink != room {
		t.Fatal("the words of the chapter are not those of api")
	}
	some := []int{math.MinInt, math.MinInt32, -1 << 32, -10, -9, -8, -2, -1, 9, 10, 17, 80, 81, 255, 256, 1 << 32, math.MaxInt32, math.MaxInt}
	for n := range places {
		some = append(some, n)
	}
	for _, from := range some {
		for _, to := range some {
			x := net.New()
			p := packet(from, to, "a")
			if from >= 0 && from <= 8 && to >= 0 && to <= 8 {
				checkPost(t, x, p, api.OK)
				checkOn(t, x, p)
				checkTake(t, x, 0, p, api.OK)
			} else {
				checkPost(t, x, p, api.ErrArg)
			}
			checkOn(t, x)
		}
	}
}

// P5.1, R2: a wrong place is told ahead of a full link, and nothing has changed.
func TestWrongPlaceWhereAllIsFull(t *testing.T) {
	x := net.New()
	var want []api.Packet
	for from := range places {
		for to := range places {
			for _, p := range numbered(from, to, room) {
				checkPost(t, x, p, api.OK)
				want = append(want, p)
			}
		}
	}
	for _, p := range []api.Packet{packet(9, 0, "a"), packet(0, 9, "a"), packet(-1, 8, "a"), packet(8, -1, "a"), packet(9, 9, ""), packet(-1, 9, "")} {
		checkPost(t, x, p, api.ErrArg)
	}
	checkOn(t, x, want...)
}

// P5.1: each link, also from a place to itself, has room for 64 and no more; what
// is refused is not on its way.
func TestRoomOfEachLink(t *testing.T) {
	for from := range places {
		for to := range places {
			list := numbered(from, to, room)
			x := withPosted(t, list...)
			checkPost(t, x, packet(from, to, "more"), api.ErrFull)
			checkPost(t, x, list[0], api.ErrFull)
			checkPost(t, x, packet(from, to, ""), api.ErrFull)
			checkOn(t, x, list...)
		}
	}
}

// P5.1, P5.3: what is posted stands behind the others, over all links, also where
// some came or were lost meanwhile.
func TestPostedBehindOthers(t *testing.T) {
	a, b, c, d := packet(0, 8, "a"), packet(8, 0, "b"), packet(0, 8, "c"), packet(4, 4, "d")
	x := withPosted(t, c, a, d, b, a)
	checkTake(t, x, 1, a, api.OK)
	checkPost(t, x, a, api.OK)
	checkOn(t, x, c, d, b, a, a)
	checkLose(t, x, 0, api.OK)
	checkPost(t, x, c, api.OK)
	checkOn(t, x, d, b, a, a, c)
	checkPost(t, x, d, api.OK)
	checkOn(t, x, d, b, a, a, c, d)
}

// P5.2: Take, Lose and Dup at the first, middle and last numbers of some packets.
func TestNumbers(t *testing.T) {
	list := []api.Packet{packet(0, 1, "a"), packet(1, 0, "b"), packet(0, 1, "c"), packet(8, 8, "d"), packet(0, 1, "a")}
	for i := range list {
		without := slices.Delete(slices.Clone(list), i, i+1)

		x := withPosted(t, list...)
		checkTake(t, x, i, list[i], api.OK)
		checkOn(t, x, without...)

		x = withPosted(t, list...)
		checkLose(t, x, i, api.OK)
		checkOn(t, x, without...)

		x = withPosted(t, list...)
		checkDup(t, x, i, api.OK)
		checkOn(t, x, append(slices.Clone(list), list[i])...)
	}
}

// P5.2, R2: a number of no packet, and nothing has changed.
func TestNumbersOfNone(t *testing.T) {
	for count := range 5 {
		list := numbered(4, 0, count)
		x := withPosted(t, list...)
		for _, i := range []int{-1, -2, -count, count, count + 1, 64, 81, math.MaxInt32, 1 << 32, math.MaxInt, math.MinInt32, -1 << 32, math.MinInt} {
			if i >= 0 && i < count {
				continue
			}
			checkTake(t, x, i, api.Packet{}, api.ErrNone)
			checkLose(t, x, i, api.ErrNone)
			checkDup(t, x, i, api.ErrNone)
			checkOn(t, x, list...)
		}
	}
}

// P5.2, R2: at a number of no packet a full link is not told.
func TestNumbersOfNoneWhereFull(t *testing.T) {
	list := numbered(4, 0, room)
	x := withPosted(t, list...)
	for _, i := range []int{-1, room, room + 1} {
		checkDup(t, x, i, api.ErrNone)
	}
	checkOn(t, x, list...)
}

// P5.2: Dup is refused where its link is full, and nowhere else.
func TestDupWhereFull(t *testing.T) {
	other := packet(1, 0, "other")
	list := append(numbered(0, 1, room), other)
	x := withPosted(t, list...)
	for i := range room {
		checkDup(t, x, i, api.ErrFull)
	}
	checkOn(t, x, list...)
	checkDup(t, x, room, api.OK)
	checkOn(t, x, append(list, other)...)
}

// P5.2: copies take up room, and give it back when they come or are lost.
func TestCopiesHaveRoomToo(t *testing.T) {
	p := packet(7, 3, "p")
	x := withPosted(t, p)
	for range room - 1 {
		checkDup(t, x, 0, api.OK)
	}
	full := slices.Repeat([]api.Packet{p}, room)
	checkOn(t, x, full...)
	checkDup(t, x, 0, api.ErrFull)
	checkDup(t, x, room-1, api.ErrFull)
	checkPost(t, x, p, api.ErrFull)
	checkTake(t, x, room-1, p, api.OK)
	checkDup(t, x, 0, api.OK)
	checkDup(t, x, 0, api.ErrFull)
	checkLose(t, x, 5, api.OK)
	checkPost(t, x, packet(7, 3, "q"), api.OK)
	checkOn(t, x, append(full[:room-1], packet(7, 3, "q"))...)
}

// P5.2: a full link has room for one more once one of its packets came or was lost,
// for just one, and not once a packet of another link did.
func TestRoomAgain(t *testing.T) {
	for _, i := range []int{0, 1, 31, room - 2, room - 1} {
		for _, lost := range []bool{false, true} {
			list := numbered(2, 5, room)
			x := withPosted(t, append(list, packet(5, 2, "other"))...)
			checkTake(t, x, room, packet(5, 2, "other"), api.OK)
			checkPost(t, x, packet(2, 5, "too early"), api.ErrFull)
			if lost {
				checkLose(t, x, i, api.OK)
			} else {
				checkTake(t, x, i, list[i], api.OK)
			}
			checkPost(t, x, packet(2, 5, "again"), api.OK)
			checkPost(t, x, packet(2, 5, "too many"), api.ErrFull)
			checkOn(t, x, append(slices.Delete(list, i, i+1), packet(2, 5, "again"))...)
		}
	}
}

// P5.2: a full link that was emptied, by coming or by being lost, has all its room again.
func TestEmptiedLink(t *testing.T) {
	x := net.New()
	list := numbered(6, 6, room)
	for turn := range 4 {
		for _, p := range list {
			checkPost(t, x, p, api.OK)
		}
		checkPost(t, x, list[0], api.ErrFull)
		for i, p := range list {
			if (turn+i)%2 == 0 {
				checkTake(t, x, 0, p, api.OK)
			} else {
				checkLose(t, x, 0, api.OK)
			}
		}
		checkOn(t, x)
	}
}

// P5.2: a copy stands behind all others, over all links.
func TestCopyBehindAll(t *testing.T) {
	a, b, c := packet(0, 8, "a"), packet(8, 0, "b"), packet(0, 8, "c")
	x := withPosted(t, a, b, c)
	checkDup(t, x, 1, api.OK)
	checkDup(t, x, 0, api.OK)
	checkDup(t, x, 4, api.OK)
	checkOn(t, x, a, b, c, b, a, a)
	checkPost(t, x, c, api.OK)
	checkDup(t, x, 2, api.OK)
	checkOn(t, x, a, b, c, b, a, a, c, c)
}

// P5.3, R4: what All told is the caller's: what he does with it the net does not
// see, nor he what the net does.
func TestAllIsTheCallers(t *testing.T) {
	list := []api.Packet{packet(0, 1, "a"), packet(1, 2, "b"), packet(2, 3, "c")}
	x := withPosted(t, list...)

	mine := x.All()
	clear(mine[:cap(mine)])
	_ = append(mine[:1], packet(3, 3, "x"), packet(3, 3, "y"))
	checkOn(t, x, list...)

	one, other := x.All(), x.All()
	one[0] = api.Packet{}
	if !slices.Equal(other, list) {
		t.Errorf("one answer changed the other: %s", short(other))
	}

	kept := x.All()
	checkTake(t, x, 0, list[0], api.OK)
	checkPost(t, x, packet(4, 4, "d"), api.OK)
	checkDup(t, x, 0, api.OK)
	checkLose(t, x, 0, api.OK)
	if !slices.Equal(kept, list) {
		t.Errorf("what All told has changed: %s", short(kept))
	}

	_ = append(x.All(), packet(3, 3, "mine"))
	checkPost(t, x, packet(5, 5, "e"), api.OK)
	checkOn(t, x, packet(2, 3, "c"), packet(4, 4, "d"), packet(1, 2, "b"), packet(5, 5, "e"))
}

// P5.4: each call on a nil net, with arguments that are right and that are wrong.
func TestNil(t *testing.T) {
	var x *net.Net
	for _, p := range []api.Packet{{}, packet(0, 8, "a"), packet(9, 0, "a"), packet(0, -1, "a"), packet(math.MinInt, math.MaxInt, "")} {
		checkPost(t, x, p, api.ErrNil)
	}
	for _, i := range []int{0, 1, -1, 64, math.MinInt, math.MaxInt} {
		checkTake(t, x, i, api.Packet{}, api.ErrNil)
		checkLose(t, x, i, api.ErrNil)
		checkDup(t, x, i, api.ErrNil)
	}
	if list := x.All(); len(list) != 0 {
		t.Errorf("All is %s", short(list))
	}
	if n := x.Len(); n != 0 {
		t.Errorf("Len is %d", n)
	}
}

// R1: a net that New did not make, and a copy of a net, panic in no call and wait in none.
func TestNetsNotOfNew(t *testing.T) {
	var zero net.Net
	p := packet(1, 2, "p")
	checkTake(t, &zero, 0, api.Packet{}, api.ErrNone)
	checkPost(t, &zero, p, api.OK)
	checkDup(t, &zero, 0, api.OK)
	checkOn(t, &zero, p, p)

	twin := zero
	for _, x := range []*net.Net{&zero, &twin} {
		for x.Len() > 0 {
			x.Lose(0)
		}
		checkOn(t, x)
	}
}

// P5.5: what comes has the bytes that were posted, whatever they are, and so has its copy.
func TestSameBytes(t *testing.T) {
	n := noise(1)
	texts := []string{"", "\x00", "\x00\x00", "a", "\xff\xfe", "\xc3\x28", "\xed\xa0\x80", "a\x00b", "ä", "\r\n", strings.Repeat("x", 1<<20)}
	for length := range 40 {
		texts = append(texts, n.text(length), n.text(1000*length))
	}
	x := net.New()
	for _, s := range texts {
		p := packet(n.below(places), n.below(places), s)
		checkPost(t, x, p, api.OK)
		checkDup(t, x, 0, api.OK)
		checkOn(t, x, p, p)
		checkTake(t, x, 1, p, api.OK)
		checkTake(t, x, 0, p, api.OK)
	}
}

// P5.5: a full link says nothing of any other one's room.
func TestFullLinkAlone(t *testing.T) {
	for full := range places * places {
		x := withPosted(t, numbered(full/places, full%places, room)...)
		for other := range places * places {
			p := packet(other/places, other%places, "p")
			if other == full {
				checkPost(t, x, p, api.ErrFull)
				continue
			}
			checkPost(t, x, p, api.OK)
			checkDup(t, x, x.Len()-1, api.OK)
		}
	}
}

// P5.5: all links at once have all their room, and one that is free leaves the others full.
func TestAllLinksFull(t *testing.T) {
	x := net.New()
	for i := range room {
		for link := range places * places {
			checkPost(t, x, packet(link/places, link%places, fmt.Sprint(i)), api.OK)
		}
	}
	for i := 0; i < x.Len(); i += 97 {
		p := x.All()[i]
		checkDup(t, x, i, api.ErrFull)
		checkTake(t, x, i, p, api.OK)
		for link := range places * places {
			want := api.ErrFull
			if link == p.From*places+p.To {
				want = api.OK
			}
			checkPost(t, x, packet(link/places, link%places, "more"), want)
		}
	}
	if n := x.Len(); n != places*places*room {
		t.Errorf("Len is %d", n)
	}
}

// R3: nets know nothing of one another.
func TestTwoNets(t *testing.T) {
	x, y := net.New(), net.New()
	list := numbered(0, 1, room)
	for _, p := range list {
		checkPost(t, x, p, api.OK)
	}
	checkOn(t, y)
	checkPost(t, y, packet(0, 1, "y"), api.OK)
	checkPost(t, x, packet(0, 1, "x"), api.ErrFull)
	checkLose(t, y, 0, api.OK)
	checkPost(t, x, packet(0, 1, "x"), api.ErrFull)
	checkOn(t, y)
	checkOn(t, x, list...)
}
