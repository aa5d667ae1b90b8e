// Package octet is layer 1: the binary encoding of numbers and strings.
package octet

import "talaria/api"

const (
	maxSize = 8   // bytes of a number
	maxText = 255 // bytes of a text: its length has one byte
)

// The kinds of parts. The zero Part has a kind of its own, so that it is recognized as not valid.
const (
	zero = iota
	number
	text
	raw
)

// Part of an encoding: a number, a text, or raw bytes.
type Part struct {
	kind int
	n    uint64
	size int
	s    string
}

// Num returns the part of n in size bytes, in big-endian order.
func Num(n uint64, size int) Part { return Part{kind: number, n: n, size: size} }

// Text returns the part of s, preceded by its length in one byte.
func Text(s string) Part { return Part{kind: text, s: s} }

// Raw returns the part of the bytes of s alone.
func Raw(s string) Part { return Part{kind: raw, s: s} }

// Join returns the concatenated encodings of parts, or the error of the first one that is not valid.
func Join(l ...Part) (string, api.Errno) {
	var out []byte
	for _, p := range l {
		if e := p.check(); e != api.OK {
			return "", e
		}
		out = p.encode(out)
	}
	return string(out), api.OK
}

func (p Part) check() api.Errno {
	switch {
	case p.kind == zero:
		return api.ErrArg
	case p.kind == number && !(sized(p.size) && fits(p.n, p.size)):
		return api.ErrRange
	case p.kind == text && len(p.s) > maxText:
		return api.ErrLong
	}
	return api.OK
}

func sized(size int) bool { return size >= 1 && size <= maxSize }

func fits(n uint64, size int) bool { return n>>(8*size) == 0 }

// encode appends the encoding of a valid part.
func (p Part) encode(out []byte) []byte {
	switch p.kind {
	case number:
		for i := range p.size {
			out = append(out, byte(p.n>>(8*(p.size-1-i))))
		}
		return out
	case text:
		out = append(out, byte(len(p.s)))
	}
	return append(out, p.s...)
}

// Reader decodes parts one after another.
type Reader struct {
	rest  string
	fault api.Errno // the first error; nothing is decoded after it
}

// Read returns a reader of s.
func Read(s string) *Reader { return &Reader{rest: s} }

// Num decodes a number of size bytes.
func (r *Reader) Num(size int) uint64 {
	if !sized(size) {
		r.fail(api.ErrForm)
		return 0
	}
	s := r.take(size)
	n := uint64(0)
	for i := range len(s) {
		n = n<<8 | uint64(s[i])
	}
	return n
}

// Text decodes a text.
func (r *Reader) Text() string {
	n := 1
	if r != nil && r.rest != "" {
		n += int(r.rest[0])
	}
	// Length and bytes are taken together: if one of them is missing, both are left.
	s := r.take(n)
	if s == "" {
		return ""
	}
	return s[1:]
}

// Raw decodes n bytes.
func (r *Reader) Raw(n int) string {
	if n < 0 {
		r.fail(api.ErrForm)
		return ""
	}
	return r.take(n)
}

// Left returns how many bytes have not been decoded.
func (r *Reader) Left() int {
	if r == nil {
		return 0
	}
	return len(r.rest)
}

// End returns the first error, or whether bytes are left.
func (r *Reader) End() api.Errno {
	switch {
	case r == nil:
		return api.ErrArg
	case r.fault != api.OK:
		return r.fault
	case r.rest != "":
		return api.ErrLong
	}
	return api.OK
}

// take returns the next n bytes, or none if they are not complete or there has been an error.
func (r *Reader) take(n int) string {
	if r == nil || r.fault != api.OK {
		return ""
	}
	if n > len(r.rest) {
		r.fail(api.ErrShort)
		return ""
	}
	s := r.rest[:n]
	r.rest = r.rest[n:]
	return s
}

// fail records an error, unless there has been one.
func (r *Reader) fail(e api.Errno) {
	if r != nil && r.fault == api.OK {
		r.fault = e
	}
}
