package paxos

import (
	"talaria/api"
	"talaria/frame"
	"talaria/mark"
	"talaria/proposer"
	"talaria/view"
)

// onPrepare promises a ballot, or tells the sender why not.
func (x *Engine) onPrepare(out *Out, f frame.Frame) {
	l, e := x.Prepare(f.Ballot, f.Slot)
	switch e {
	case api.OK:
		x.follow(f.Ballot)
		out.send(x.promise(f.From, f.Ballot, f.Slot, l))
	case api.ErrState:
		out.send(x.refuse(f.From))
	case api.ErrRange: // the slot is below the acceptor's Base
		out.send(x.snap(f.From))
	}
}

// onAccept accepts a command, or tells the sender why not.
func (x *Engine) onAccept(out *Out, f frame.Frame) {
	switch x.Accept(f.Ballot, f.Slot, f.Command) {
	case api.OK:
		x.follow(f.Ballot)
		out.send(x.accepted(f.From, f.Ballot, f.Slot))
	case api.ErrState:
		out.send(x.refuse(f.From))
	case api.ErrRange:
		out.send(x.snap(f.From))
	case api.ErrFull:
		out.send(x.have(f.From, false))
	}
}

// onHave sends what the sender does not have: commands that are kept, or else a snapshot.
func (x *Engine) onHave(out *Out, f frame.Frame) {
	if f.Flag {
		x.quiet = 0
	}
	if f.Slot >= x.Learner.Next() {
		return
	}
	if _, ok := x.kept(f.Slot); !ok {
		out.send(x.snap(f.From))
		return
	}
	for i := range uint32(1 + following) {
		if c, ok := x.kept(f.Slot + i); ok {
			out.send(x.decision(f.From, f.Slot+i, c))
		}
	}
}

// onSnap continues with a snapshot that is ahead.
func (x *Engine) onSnap(out *Out, f frame.Frame) {
	l, ok := x.Snap(f.Slot, f.View)
	if !ok {
		return
	}
	next, v := x.Next()
	x.Learn(next)
	x.Truncate(next, v)
	out.Applied = append(out.Applied, l...)
}

// follow waits for the master that has this ballot.
func (x *Engine) follow(b mark.Ballot) {
	x.quiet = 0
	x.stepDown(b)
}

// stepDown gives up a ballot that is below another one.
func (x *Engine) stepDown(behind mark.Ballot) {
	if phase, b, _ := x.Phase(); phase != proposer.Idle && b.Below(behind.Mark) {
		x.Stop()
	}
}

// stand asks for promises of a ballot above all that this master knows of.
func (x *Engine) stand(out *Out) {
	b, ok := mark.Highest(x.Promised(), x.refused).Next(x.self)
	if !ok {
		return
	}
	x.quiet = 0
	from := x.Learner.Next()
	l, e := x.Prepare(b, from)
	if e != api.OK {
		return
	}
	x.Start(b, from)
	out.send(x.each(func(to uint8) frame.Frame { return x.prepare(to, b, from) })...)
	if x.Promise(x.self, b, l) {
		x.submit(out, x.Pending()...)
	}
}

// submit asks all masters to accept proposals, this one among them.
func (x *Engine) submit(out *Out, l ...frame.Entry) {
	for _, p := range l {
		out.send(x.each(func(to uint8) frame.Frame { return x.accept(to, p) })...)
		if x.Accept(p.Ballot, p.Slot, p.Command) == api.OK {
			x.count(out, x.self, p.Ballot, p.Slot)
		}
	}
}

// count counts that a master has accepted a proposal, which may be decided by this.
func (x *Engine) count(out *Out, from uint8, b mark.Ballot, slot uint32) {
	c, ok := x.Accepted(from, b, slot)
	if !ok {
		return
	}
	out.send(x.each(func(to uint8) frame.Frame { return x.decision(to, slot, c) })...)
	x.decide(out, slot, c)
}

// decide learns the command of a slot, and now and then cuts the slots that are applied, so that the acceptor has room for others.
func (x *Engine) decide(out *Out, slot uint32, c view.Command) {
	l, e := x.Decide(slot, c)
	if e != api.OK {
		return
	}
	next, v := x.Next()
	x.Learn(next)
	if base, _ := x.Base(); next-base >= api.Kept { // base is not above next, because only slots that are applied are cut
		x.Truncate(next, v)
	}
	out.Applied = append(out.Applied, l...)
}

// kept returns the command that is kept for a slot, and whether there is one.
func (x *Engine) kept(slot uint32) (view.Command, bool) {
	if slot < x.began {
		return view.Command{}, false
	}
	return x.Get(slot)
}
