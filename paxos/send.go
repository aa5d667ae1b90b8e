package paxos

import (
	"talaria/frame"
	"talaria/mark"
	"talaria/view"
)

// send adds frames to those that a call sends.
func (o *Out) send(l ...frame.Frame) { o.Frames = append(o.Frames, l...) }

// others returns the other masters in ascending order.
func (x *Engine) others() []uint8 {
	var l []uint8
	for i := range x.masters {
		if n := uint8(i + 1); n != x.self {
			l = append(l, n)
		}
	}
	return l
}

// each returns a frame to each of the others.
func (x *Engine) each(fill func(to uint8) frame.Frame) []frame.Frame {
	var l []frame.Frame
	for _, to := range x.others() {
		l = append(l, fill(to))
	}
	return l
}

// The following return frames to a master.

func (x *Engine) head(kind, to uint8) frame.Head {
	return frame.Head{Kind: kind, From: x.self, To: to}
}

func (x *Engine) prepare(to uint8, b mark.Ballot, from uint32) frame.Frame {
	return frame.Frame{Head: x.head(frame.Prepare, to), Ballot: b, Slot: from}
}

func (x *Engine) promise(to uint8, b mark.Ballot, from uint32, l []frame.Entry) frame.Frame {
	return frame.Frame{Head: x.head(frame.Promise, to), Ballot: b, Slot: from, Entries: l}
}

func (x *Engine) refuse(to uint8) frame.Frame {
	return frame.Frame{Head: x.head(frame.Refuse, to), Ballot: x.Promised()}
}

func (x *Engine) accept(to uint8, p frame.Entry) frame.Frame {
	return frame.Frame{Head: x.head(frame.Accept, to), Ballot: p.Ballot, Slot: p.Slot, Command: p.Command}
}

func (x *Engine) accepted(to uint8, b mark.Ballot, slot uint32) frame.Frame {
	return frame.Frame{Head: x.head(frame.Accepted, to), Ballot: b, Slot: slot}
}

func (x *Engine) decision(to uint8, slot uint32, c view.Command) frame.Frame {
	return frame.Frame{Head: x.head(frame.Decide, to), Slot: slot, Command: c}
}

func (x *Engine) have(to uint8, leads bool) frame.Frame {
	return frame.Frame{Head: x.head(frame.Have, to), Slot: x.Learner.Next(), Flag: leads}
}

func (x *Engine) snap(to uint8) frame.Frame {
	next, v := x.Next()
	return frame.Frame{Head: x.head(frame.Snap, to), Slot: next, View: v}
}
