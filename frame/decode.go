package frame

import (
	"talaria/api"
	"talaria/crc"
	"talaria/mark"
	"talaria/octet"
	"talaria/register"
	"talaria/view"
)

// Decode returns the frame that s encodes, or the first error.
func Decode(s string) (Frame, api.Errno) {
	text, fault := crc.Open(s)
	if fault != api.OK {
		return Frame{}, fault
	}
	d := decoder{Reader: octet.Read(text)}
	f := Frame{Head: d.head()}
	if d.short() {
		return Frame{}, api.ErrShort
	}
	if !known(f.Kind) {
		return Frame{}, api.ErrForm
	}
	for _, field := range fields[f.Kind] {
		d.field(&f, field)
		if d.wrong {
			return Frame{}, api.ErrForm
		}
	}
	if fault := d.End(); fault != api.OK {
		return Frame{}, fault
	}
	return f, api.OK
}

// decoder reads fields. Behind missing bytes it reads zeros, none of which is wrong: so what is wrong was there before bytes were missing, and is the first error.
type decoder struct {
	*octet.Reader
	wrong bool // something decoded is not as required
}

func (d *decoder) field(f *Frame, field rune) {
	switch field {
	case 'E':
		f.Epoch = d.four()
	case 'K':
		f.Key = d.key()
	case 'T':
		f.Stamp = d.stamp()
	case 'V':
		f.Value = d.value()
	case 'M':
		f.RMW = d.flag()
	case 'D':
		f.Dir = d.one()
	case 'F':
		f.Flag = d.flag()
	case 'L':
		f.Life = d.one()
	case 'R':
		f.Req = d.four()
	case 'W':
		f.View = d.view()
	case 'B':
		f.Ballot = d.ballot()
	case 'S':
		f.Slot = d.four()
	case 'N':
		f.Entries = d.entries()
	case 'C':
		f.Command = d.command()
	}
}

func (d *decoder) short() bool { return d.End() == api.ErrShort }

// check records whether something decoded is as required.
func (d *decoder) check(ok bool) {
	if !ok {
		d.wrong = true
	}
}

func (d *decoder) one() uint8 { return uint8(d.Num(1)) }

func (d *decoder) four() uint32 { return uint32(d.Num(4)) }

func (d *decoder) flag() bool {
	n := d.one()
	d.check(n <= 1)
	return n == 1
}

// count reads a number of elements. If there are too many, none of them is read.
func (d *decoder) count(most uint8) int {
	n := d.one()
	if n > most {
		d.check(false)
		return 0
	}
	return int(n)
}

func (d *decoder) head() Head {
	return Head{Kind: d.one(), From: d.one(), To: d.one()}
}

func (d *decoder) key() uint8 {
	key := d.one()
	d.check(isKey(key))
	return key
}

func (d *decoder) stamp() mark.Stamp {
	return mark.Stamp{Mark: d.mark(), Life: d.one()}
}

func (d *decoder) ballot() mark.Ballot { return mark.Ballot{Mark: d.mark()} }

func (d *decoder) mark() mark.Mark {
	return mark.Mark{N: d.four(), By: d.one()}
}

// value reads a value. A wrong Has precedes missing bytes of the Text, a wrong Text does not.
func (d *decoder) value() register.Value {
	v := register.Value{Has: d.flag(), Text: d.Text()}
	d.check(isValue(v))
	return v
}

func (d *decoder) command() view.Command {
	return view.Command{Kind: d.one(), Node: d.one(), Life: d.one(), Epoch: d.four(), Req: d.four()}
}

func (d *decoder) view() view.View {
	v := view.View{Epoch: d.four()}
	for range d.count(api.MaxNodes) {
		m := view.Member{Node: d.one(), Life: d.one(), Ready: d.flag()}
		v.Members = append(v.Members, m)
	}
	copy(v.Lives[:], d.Raw(len(v.Lives)))
	return v
}

func (d *decoder) entries() []Entry {
	var l []Entry
	for range d.count(api.MaxEntries) {
		l = append(l, Entry{Slot: d.four(), Ballot: d.ballot(), Command: d.command()})
	}
	return l
}
