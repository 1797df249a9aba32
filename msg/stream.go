package msg

import (
	"math"

	"meter/api"
	"meter/pack"
)

// mostNumber is the bound of all numbers but a digest.
const mostNumber = math.MaxInt32

// stream is what a message's fields pass through, one behind the other: a
// writer takes them out of the message, a reader puts them into it. So the order
// of the fields is told once for both. One that can't go on gives up.
type stream interface {
	octet(b *uint8)
	number(n *int)
	wide(n *uint64)
	integer(n *int64)
	text(s *string, most int)
	list(l *[]int, most int)
}

// refusal is what is panicked with by who gives up.
type refusal struct {
	e api.Errno
}

// giveUp ends the attempt that is under way.
func giveUp(e api.Errno) {
	panic(refusal{e})
}

// attempt does what may give up, and is the error by which it did.
func attempt(do func()) (e api.Errno) {
	defer func() {
		switch r := recover().(type) {
		case nil:
		case refusal:
			e = r.e
		default:
			panic(r)
		}
	}()
	do()
	return api.OK
}

// writer writes what is within its bounds, and leaves a zero where it stood.
type writer struct {
	out pack.Out
}

func (w *writer) octet(b *uint8) {
	w.out.Byte(*b)
	*b = 0
}

func (w *writer) number(n *int) {
	w.upTo(*n, mostNumber)
	*n = 0
}

func (w *writer) wide(n *uint64) {
	w.out.Num(*n)
	*n = 0
}

func (w *writer) integer(n *int64) {
	w.out.Int(*n)
	*n = 0
}

func (w *writer) text(s *string, most int) {
	if len(*s) > most {
		giveUp(api.ErrArg)
	}
	w.out.Text(*s)
	*s = ""
}

func (w *writer) list(l *[]int, most int) {
	w.upTo(len(*l), most)
	for _, n := range *l {
		w.upTo(n, mostNumber)
	}
	*l = nil
}

// upTo writes a number from 0 to most.
func (w *writer) upTo(n, most int) {
	if n < 0 || n > most {
		giveUp(api.ErrArg)
	}
	w.out.Num(uint64(n))
}

// reader reads, and gives up at the first fault.
type reader struct {
	in *pack.In
}

func (r *reader) octet(b *uint8) {
	*b = r.in.Byte()
	r.check()
}

func (r *reader) number(n *int) {
	*n = r.upTo(mostNumber)
}

func (r *reader) wide(n *uint64) {
	*n = r.in.Num()
	r.check()
}

func (r *reader) integer(n *int64) {
	*n = r.in.Int()
	r.check()
}

func (r *reader) text(s *string, most int) {
	*s = r.in.Text(most)
	r.check()
}

func (r *reader) list(l *[]int, most int) {
	// It grows by what is there: the count alone is not to be believed.
	var all []int
	for range r.upTo(most) {
		all = append(all, r.upTo(mostNumber))
	}
	*l = all
}

// upTo reads a number from 0 to most.
func (r *reader) upTo(most int) int {
	n := r.in.Most(most)
	r.check()
	return n
}

// check gives up at a fault.
func (r *reader) check() {
	if e, _ := r.in.Fault(); e != api.OK {
		giveUp(e)
	}
}

// end gives up if bytes are left.
func (r *reader) end() {
	if e := r.in.End(); e != api.OK {
		giveUp(e)
	}
}
