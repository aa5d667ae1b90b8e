package frame

import (
	"talaria/api"
	"talaria/crc"
	"talaria/mark"
	"talaria/octet"
	"talaria/register"
	"talaria/view"
)

// Encode returns the encoding of a frame, or ErrForm if it is not valid.
func Encode(f Frame) (string, api.Errno) {
	if !valid(f) {
		return "", api.ErrForm
	}
	var e encoder
	e.one(f.Kind, f.From, f.To)
	for _, field := range fields[f.Kind] {
		e.field(f, field)
	}
	s, _ := octet.Join(e.parts...) // without an error, because the fields of a valid frame fit
	return crc.Seal(s), api.OK
}

// encoder collects the parts of an encoding.
type encoder struct{ parts []octet.Part }

func (e *encoder) field(f Frame, field rune) {
	switch field {
	case 'E':
		e.four(f.Epoch)
	case 'K':
		e.one(f.Key)
	case 'T':
		e.stamp(f.Stamp)
	case 'V':
		e.value(f.Value)
	case 'M':
		e.flag(f.RMW)
	case 'D':
		e.one(f.Dir)
	case 'F':
		e.flag(f.Flag)
	case 'L':
		e.one(f.Life)
	case 'R':
		e.four(f.Req)
	case 'W':
		e.view(f.View)
	case 'B':
		e.ballot(f.Ballot)
	case 'S':
		e.four(f.Slot)
	case 'N':
		e.entries(f.Entries)
	case 'C':
		e.command(f.Command)
	}
}

// one adds numbers of one byte each.
func (e *encoder) one(l ...uint8) {
	for _, n := range l {
		e.parts = append(e.parts, octet.Num(uint64(n), 1))
	}
}

// four adds numbers of four bytes each.
func (e *encoder) four(l ...uint32) {
	for _, n := range l {
		e.parts = append(e.parts, octet.Num(uint64(n), 4))
	}
}

func (e *encoder) flag(b bool) {
	if b {
		e.one(1)
	} else {
		e.one(0)
	}
}

func (e *encoder) stamp(s mark.Stamp) {
	e.four(s.N)
	e.one(s.By, s.Life)
}

func (e *encoder) ballot(b mark.Ballot) {
	e.four(b.N)
	e.one(b.By)
}

func (e *encoder) value(v register.Value) {
	e.flag(v.Has)
	e.parts = append(e.parts, octet.Text(v.Text))
}

func (e *encoder) command(c view.Command) {
	e.one(c.Kind, c.Node, c.Life)
	e.four(c.Epoch, c.Req)
}

func (e *encoder) view(v view.View) {
	e.four(v.Epoch)
	e.one(uint8(len(v.Members)))
	for _, m := range v.Members {
		e.one(m.Node, m.Life)
		e.flag(m.Ready)
	}
	e.one(v.Lives[:]...)
}

func (e *encoder) entries(l []Entry) {
	e.one(uint8(len(l)))
	for _, x := range l {
		e.four(x.Slot)
		e.ballot(x.Ballot)
		e.command(x.Command)
	}
}
