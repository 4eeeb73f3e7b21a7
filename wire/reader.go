package wire

import (
	"strings"

	"hawthorn/api"
)

// Reader takes things off bytes: what may not be is told by a panic, until it ends.
type Reader struct {
	left string
	of   *reading
}

// reading is one call of Read. It stands apart from the Reader, so that copies of that end with it.
type reading struct {
	over  bool
	wrong api.Errno // of the first that could not be taken
}

// fault is what a Reader panics with. It names its reading: one within another one must not end in its place.
type fault struct{ of *reading }

// Read lets something be taken off bytes, all of them: why it can't be; the bytes may be of any form.
func Read(s string, take func(r *Reader)) (e api.Errno) {
	of := &reading{}
	r := &Reader{left: s, of: of}
	defer func() {
		of.over = true
		switch x := recover().(type) {
		case nil:
		case fault:
			if x.of != of {
				panic(x)
			}
			e = of.wrong
		default: // it is not about bytes, and whoever handed in take is to know
			panic(x)
		}
	}()
	if take != nil {
		take(r)
	}
	if of.wrong == api.OK && r.Left() > 0 {
		return api.ErrExtra
	}
	return of.wrong // a take that recovers by itself can't hide it
}

// Bytes takes so many bytes.
func (r *Reader) Bytes(n int) string {
	rest := r.rest()
	if n < 0 || n > len(rest) {
		r.fail(api.ErrShort)
		return ""
	}
	if n == 0 {
		return ""
	}
	r.left = rest[n:]
	return strings.Clone(rest[:n]) // so that a key that is kept does not keep a whole frame
}

// Num takes a number that is at most so great.
func (r *Reader) Num(top uint64) uint64 {
	rest := r.rest()
	n, size, e := number(rest)
	if e == api.OK && n > top {
		e = api.ErrOver
	}
	if e != api.OK {
		r.fail(e)
		return 0
	}
	r.left = rest[size:]
	return n
}

// Text takes a text of at most so many bytes.
func (r *Reader) Text(top int) string { return r.Bytes(int(r.Num(uint64(max(top, 0))))) }

// Flag takes yes or no.
func (r *Reader) Flag() bool {
	b := r.Bytes(1)
	r.Must(b == Flag(true) || b == Flag(false))
	return b == Flag(true)
}

// Must gives up, unless something is so.
func (r *Reader) Must(ok bool) {
	if !ok {
		r.fail(api.ErrForm)
	}
}

// Left is how many bytes are left.
func (r *Reader) Left() int { return len(r.rest()) }

// rest is what is left: nothing, where no reading is under way.
func (r *Reader) rest() string {
	if !r.under() {
		return ""
	}
	return r.left
}

// under is whether a reading is under way.
func (r *Reader) under() bool { return r != nil && r.of != nil && !r.of.over }

// fail ends the reading that is under way. Where none is, nobody would recover, and it does nothing.
func (r *Reader) fail(e api.Errno) {
	if !r.under() {
		return
	}
	if r.of.wrong == api.OK {
		r.of.wrong = e
	}
	panic(fault{r.of})
}

// number is the number with which bytes begin, and how many of them it has. They are asked one by one, so that what may not be is told ahead of the bytes' end behind it.
func number(s string) (n uint64, size int, e api.Errno) {
	for i := range min(len(s), mostNum) {
		b := s[i]
		tooMuch := i == mostNum-1 && b > 1 // nine bytes have 63 bits: one is left, and no byte may follow
		notShortest := i > 0 && b == 0
		if tooMuch || notShortest {
			return 0, 0, api.ErrForm
		}
		n |= uint64(b%more) << (i * bitsEach)
		if b < more {
			return n, i + 1, api.OK
		}
	}
	return 0, 0, api.ErrShort
}
