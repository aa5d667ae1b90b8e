package acceptor

import (
	"talaria/api"
	"talaria/frame"
	"talaria/mark"
	"talaria/octet"
	"talaria/view"
)

// The changes of a state are frames, because these can be encoded with all that a change consists of. They are sent to nobody, so their From and To are 0.

// promise is the change by which a ballot is promised.
func promise(b mark.Ballot) frame.Frame {
	return frame.Frame{Head: frame.Head{Kind: frame.Prepare}, Ballot: b}
}

// accept is the change by which an entry is accepted, and its ballot is promised.
func accept(x frame.Entry) frame.Frame {
	return frame.Frame{Head: frame.Head{Kind: frame.Accept}, Slot: x.Slot, Ballot: x.Ballot, Command: x.Command}
}

// cut is the change by which the slots below one are cut, after which the view is v.
func cut(low uint32, v view.View) frame.Frame {
	return frame.Frame{Head: frame.Head{Kind: frame.Snap}, Slot: low, View: v}
}

// encode returns the record of a change: the master, so that a disk tells whose it is, and the frame.
func encode(self uint8, f frame.Frame) string {
	body, _ := frame.Encode(f) // without an error, because only a view could be too long, and none is by now
	s, _ := octet.Join(octet.Num(uint64(self), 1), octet.Raw(body))
	return s
}

// decode returns the master and the change of a record, and whether it is one.
func decode(s string) (uint8, frame.Frame, bool) {
	r := octet.Read(s)
	self := uint8(r.Num(1))
	f, e := frame.Decode(r.Raw(r.Left()))
	return self, f, e == api.OK
}
