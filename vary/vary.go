// Package vary has numbers and texts as bytes. See shared/doc/01-vary.md.
package vary

import (
	"slices"

	"variorum/api"
)

// maxSigned is the greatest number whose double is still one from 0 to MaxNum.
const maxSigned = api.MaxNum / 2

// maxDigits is how many digits MaxNum has to the base 128.
const maxDigits = 9

// store is bytes that grow.
type store struct{ bytes []byte }

// Put puts a number behind bytes.
func Put(b []byte, n int) []byte { return behind(b, (*store).num, n) }

// PutText puts a text behind bytes.
func PutText(b []byte, s string) []byte { return behind(b, (*store).text, s) }

// PutSigned puts a number of any sign behind bytes.
func PutSigned(b []byte, n int) []byte { return behind(b, (*store).signed, n) }

// behind grows a copy, since b's spare room is not ours to write into.
func behind[T any](b []byte, put func(*store, T), v T) []byte {
	s := store{slices.Clone(b)}
	put(&s, v)
	return s.bytes
}

func (s *store) num(n int) {
	if n < 0 || n > api.MaxNum {
		return
	}
	for ; n >= 128; n /= 128 {
		s.bytes = append(s.bytes, byte(n%128+128))
	}
	s.bytes = append(s.bytes, byte(n))
}

func (s *store) signed(n int) {
	// Asked ahead of the doubling, which could leave int's range.
	if n < -maxSigned || n > maxSigned {
		return
	}
	if n < 0 {
		s.num(-2*n - 1)
	} else {
		s.num(2 * n)
	}
}

func (s *store) text(t string) {
	s.num(len(t))
	s.bytes = append(s.bytes, t...)
}

// place is where a reader stands. Its zero value is that of a bad reader, and of one that no call made.
type place struct {
	ahead string
	good  bool
}

// num goes behind the number that stands ahead; if none does, the place is bad.
func (p *place) num() int {
	n := 0
	for i := range min(maxDigits, len(p.ahead)) {
		digit := int(p.ahead[i])
		n += (digit % 128) << (7 * i)
		if digit >= 128 {
			continue
		}
		if digit == 0 && i > 0 || n > api.MaxNum {
			break
		}
		p.ahead = p.ahead[i+1:]
		return n
	}
	*p = place{}
	return 0
}

// take goes behind n bytes; if there are fewer, the place is bad.
func (p *place) take(n int) string {
	if n > len(p.ahead) {
		*p = place{}
		return ""
	}
	t := p.ahead[:n]
	p.ahead = p.ahead[n:]
	return t
}

// Reader is bytes that are read.
type Reader struct{ place }

// Read tells a reader of bytes.
func Read(b []byte) *Reader {
	// A text of its own: what is written into b later is not read.
	return &Reader{place{ahead: string(b), good: true}}
}

// Num reads a number.
func (r *Reader) Num() int {
	if r == nil {
		return 0
	}
	return r.num()
}

// Signed reads a number of any sign.
func (r *Reader) Signed() int {
	n := r.Num()
	if n%2 == 1 {
		return -(n/2 + 1)
	}
	return n / 2
}

// Text reads a text.
func (r *Reader) Text() string {
	if r == nil {
		return ""
	}
	return r.take(r.num())
}

// Left tells how many bytes are ahead.
func (r *Reader) Left() int {
	if r == nil {
		return 0
	}
	return len(r.ahead)
}

// Bad tells whether something was wrong.
func (r *Reader) Bad() bool { return r == nil || !r.good }

// Done tells whether all was read.
func (r *Reader) Done() bool { return !r.Bad() && r.Left() == 0 }
