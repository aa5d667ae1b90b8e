package paxos

import (
	"math"
	"slices"
	"testing"

	"talaria/acceptor"
	"talaria/api"
	"talaria/disk"
	"talaria/frame"
	"talaria/learner"
	"talaria/mark"
	"talaria/view"
)

const (
	me       = 2  // the master of most tests, of which there are three
	patience = 5  // its patience
	limit    = 11 // the quiet time with which it stands
)

// mine is the first ballot with which it stands.
var mine = ballot(1, me)

// is is what an engine should have.
type is struct {
	next  uint32
	view  view.View
	leads bool
	busy  int
}

// ballot returns the ballot of a master with that number.
func ballot(n uint32, by uint8) mark.Ballot { return mark.Ballot{Mark: mark.Mark{N: n, By: by}} }

// command returns a command that differs from those of other numbers, and from a Noop.
func command(n int) view.Command {
	return view.Command{Kind: uint8(n % 5), Node: uint8(n%3) + 1, Life: uint8(n>>8) + 1, Epoch: 1, Req: uint32(n) + 1}
}

// commands returns so many commands.
func commands(n int) []view.Command {
	var l []view.Command
	for i := range n {
		l = append(l, command(i))
	}
	return l
}

// entry returns an entry with a command of that number.
func entry(slot uint32, b mark.Ballot, n int) frame.Entry {
	return frame.Entry{Slot: slot, Ballot: b, Command: command(n)}
}

// first returns the view of so many nodes.
func first(nodes int) view.View {
	v, _ := view.First(nodes)
	return v
}

// some returns a view of so many members, in which no field is like another one.
func some(members int) view.View {
	v := view.View{Epoch: 0x01020304, Lives: [api.MaxNodes]uint8{11, 12, 13, 14, 15, 16, 17, 18}}
	for i := range members {
		v.Members = append(v.Members, view.Member{Node: uint8(i + 1), Life: uint8(200 - i), Ready: i%3 != 1})
	}
	return v
}

func head(kind, from, to uint8) frame.Head { return frame.Head{Kind: kind, From: from, To: to} }

func prepare(from, to uint8, b mark.Ballot, slot uint32) frame.Frame {
	return frame.Frame{Head: head(frame.Prepare, from, to), Ballot: b, Slot: slot}
}

func promise(from, to uint8, b mark.Ballot, slot uint32, l ...frame.Entry) frame.Frame {
	return frame.Frame{Head: head(frame.Promise, from, to), Ballot: b, Slot: slot, Entries: l}
}

func refuse(from, to uint8, b mark.Ballot) frame.Frame {
	return frame.Frame{Head: head(frame.Refuse, from, to), Ballot: b}
}

func accept(from, to uint8, b mark.Ballot, slot uint32, c view.Command) frame.Frame {
	return frame.Frame{Head: head(frame.Accept, from, to), Ballot: b, Slot: slot, Command: c}
}

func accepted(from, to uint8, b mark.Ballot, slot uint32) frame.Frame {
	return frame.Frame{Head: head(frame.Accepted, from, to), Ballot: b, Slot: slot}
}

func decide(from, to uint8, slot uint32, c view.Command) frame.Frame {
	return frame.Frame{Head: head(frame.Decide, from, to), Slot: slot, Command: c}
}

func have(from, to uint8, slot uint32, leads bool) frame.Frame {
	return frame.Frame{Head: head(frame.Have, from, to), Slot: slot, Flag: leads}
}

func snap(from, to uint8, slot uint32, v view.View) frame.Frame {
	return frame.Frame{Head: head(frame.Snap, from, to), Slot: slot, View: v}
}

// both returns a frame to each of the others of master 2.
func both(fill func(to uint8) frame.Frame) []frame.Frame { return []frame.Frame{fill(1), fill(3)} }

// haves are the Haves of a tick of master 2.
func haves(slot uint32, leads bool) []frame.Frame {
	return both(func(to uint8) frame.Frame { return have(me, to, slot, leads) })
}

// prepares are the Prepares of master 2.
func prepares(b mark.Ballot, slot uint32) []frame.Frame {
	return both(func(to uint8) frame.Frame { return prepare(me, to, b, slot) })
}

// accepts are the Accepts of master 2 for commands in the slots from one on.
func accepts(b mark.Ballot, slot uint32, l ...view.Command) []frame.Frame {
	var all []frame.Frame
	for i, c := range l {
		all = append(all, both(func(to uint8) frame.Frame { return accept(me, to, b, slot+uint32(i), c) })...)
	}
	return all
}

// decisions are the Decides of master 2.
func decisions(slot uint32, c view.Command) []frame.Frame {
	return both(func(to uint8) frame.Frame { return decide(me, to, slot, c) })
}

// equal reports whether two calls have sent and applied the same.
func equal(a, b Out) bool {
	return slices.EqualFunc(a.Frames, b.Frames, frame.Same) &&
		slices.EqualFunc(a.Applied, b.Applied, func(a, b learner.Applied) bool {
			return a.Slot == b.Slot && a.Command == b.Command && a.Holds == b.Holds && view.Same(a.View, b.View)
		})
}

// does checks what a call has sent and applied.
func does(t *testing.T, what string, got Out, applied []learner.Applied, frames ...frame.Frame) {
	t.Helper()
	want := Out{frames, applied}
	if !equal(got, want) {
		t.Errorf("%s:\n%v, want\n%v", what, got, want)
	}
}

// apply returns what is applied by commands from there on, and what an engine has then.
func (w is) apply(l ...view.Command) ([]learner.Applied, is) {
	var all []learner.Applied
	for _, c := range l {
		v, holds := w.view.Apply(c)
		all = append(all, learner.Applied{Slot: w.next, Command: c, Holds: holds, View: v})
		w.view = v
		w.next++
	}
	return all, w
}

// has checks all that an engine tells.
func has(t *testing.T, x *Engine, want is) {
	t.Helper()
	if next, v := x.Next(); next != want.next || !view.Same(v, want.view) {
		t.Errorf("Next: %d %v, want %d %v", next, v, want.next, want.view)
	}
	if leads := x.Leads(); leads != want.leads {
		t.Errorf("Leads: %v, want %v", leads, want.leads)
	}
	if busy := x.Busy(); busy != want.busy {
		t.Errorf("Busy: %d, want %d", busy, want.busy)
	}
}

// given returns the disk of a master whose slots begin with a view of three nodes.
func given(t *testing.T, self uint8) *disk.Disk {
	t.Helper()
	d := disk.New()
	if e := acceptor.Make(d, self, first(3)); e != api.OK {
		t.Fatalf("Make: %v", e)
	}
	return d
}

// open opens a master's disk, and checks what the engine has.
func open(t *testing.T, d *disk.Disk, self uint8, masters, patience int, want is) *Engine {
	t.Helper()
	x, e := Open(d, self, masters, patience)
	if x == nil || e != api.OK {
		t.Fatalf("Open: %v %v", x, e)
	}
	has(t, x, want)
	return x
}

// made returns the disk of master 2, and its engine.
func made(t *testing.T) (*disk.Disk, *Engine, is) {
	t.Helper()
	d, w := given(t, me), is{view: first(3)}
	return d, open(t, d, me, 3, patience, w), w
}

// waits checks that master 2 does not stand in so many ticks.
func waits(t *testing.T, x *Engine, ticks int) {
	t.Helper()
	next, _ := x.Next()
	for i := range ticks {
		does(t, "a tick before it stands", x.Tick(), nil, haves(next, false)...)
		if t.Failed() {
			t.Fatalf("tick %d of %d", i+1, ticks)
		}
	}
}

// stands checks that master 2 stands with a ballot in so many ticks, and not before.
func stands(t *testing.T, x *Engine, ticks int, b mark.Ballot) {
	t.Helper()
	waits(t, x, ticks-1)
	next, _ := x.Next()
	does(t, "the tick by which it stands", x.Tick(), nil, slices.Concat(haves(next, false), prepares(b, next))...)
}

// on checks what master 2 sends for a frame, by which it applies nothing.
func on(t *testing.T, x *Engine, f frame.Frame, want ...frame.Frame) {
	t.Helper()
	does(t, "On", x.On(f), nil, want...)
}

// learns checks that a frame makes master 2 apply commands and send frames, and returns what it has then.
func learns(t *testing.T, x *Engine, w is, f frame.Frame, l []view.Command, want ...frame.Frame) is {
	t.Helper()
	applied, w := w.apply(l...)
	does(t, "On", x.On(f), applied, want...)
	return w
}

// proposes checks that master 2 proposes a command in a slot.
func proposes(t *testing.T, x *Engine, b mark.Ballot, slot uint32, c view.Command) {
	t.Helper()
	out, ok := x.Propose(c)
	if !ok {
		t.Errorf("Propose: false")
	}
	does(t, "Propose", out, nil, accepts(b, slot, c)...)
}

// refuses checks that an engine does not propose.
func refuses(t *testing.T, x *Engine) {
	t.Helper()
	for _, c := range []view.Command{{}, command(3)} {
		out, ok := x.Propose(c)
		if ok {
			t.Errorf("Propose: true")
		}
		does(t, "Propose", out, nil)
	}
}

// asking returns master 2, which asks with its first ballot.
func asking(t *testing.T) (*disk.Disk, *Engine, is) {
	t.Helper()
	d, x, w := made(t)
	stands(t, x, limit, mine)
	has(t, x, w)
	return d, x, w
}

// leading returns master 2, which leads with its first ballot and has proposed commands from the slot 0 on.
func leading(t *testing.T, l ...view.Command) (*disk.Disk, *Engine, is) {
	t.Helper()
	d, x, w := asking(t)
	on(t, x, promise(3, me, mine, 0))
	for i, c := range l {
		proposes(t, x, mine, uint32(i), c)
	}
	w.leads, w.busy = true, len(l)
	has(t, x, w)
	return d, x, w
}

// ahead returns master 2, which has learned commands in the slots from 0 on.
func ahead(t *testing.T, l ...view.Command) (*disk.Disk, *Engine, is) {
	t.Helper()
	d, x, w := made(t)
	for i, c := range l {
		w = learns(t, x, w, decide(3, me, uint32(i), c), []view.Command{c})
	}
	has(t, x, w)
	return d, x, w
}

// base checks which slot is the first one that master 2 has not cut, by Accepts of a ballot that it has not promised.
func base(t *testing.T, x *Engine, b mark.Ballot, want uint32) {
	t.Helper()
	next, v := x.Next()
	if want > 0 {
		on(t, x, accept(1, me, b, want-1, command(1)), snap(me, 1, next, v))
	}
	on(t, x, accept(1, me, b, want, command(1)), accepted(me, 1, b, want))
}

// P14.1 to P14.4: the example of the chapter.
func TestExample(t *testing.T) {
	for _, patience := range []int{1, 2, 7, 1000} {
		w := is{view: first(3)}
		x := open(t, given(t, 1), 1, 1, patience, w)
		for range patience + 3 {
			has(t, x, w)
			does(t, "Tick", x.Tick(), nil)
		}
		w.leads = true
		has(t, x, w)
		for i := range 40 {
			out, ok := x.Propose(command(i))
			if !ok {
				t.Errorf("Propose: false")
			}
			var applied []learner.Applied
			applied, w = w.apply(command(i))
			does(t, "Propose", out, applied)
			has(t, x, w)
			does(t, "Tick", x.Tick(), nil)
		}
	}
}

// P14.1: an engine opens for each master, with each patience; it begins with the slot 0 and the view of its disk, and does not lead.
func TestOpen(t *testing.T) {
	for masters := 1; masters <= api.MaxMasters; masters++ {
		for self := 1; self <= masters; self++ {
			for _, patience := range []int{1, 2, 500, 999, 1000} {
				x := open(t, given(t, uint8(self)), uint8(self), masters, patience, is{view: first(3)})
				refuses(t, x)
			}
		}
	}
	d := disk.New()
	acceptor.Make(d, 5, some(7))
	open(t, d, 5, 5, 1, is{view: some(7)})
}

// failed checks that nothing can be opened.
func failed(t *testing.T, what string, d *disk.Disk, self uint8, masters, patience int, want api.Errno) {
	t.Helper()
	if x, e := Open(d, self, masters, patience); x != nil || e != want {
		t.Errorf("Open of %s, %d of %d, patience %d: %v %v, want %v", what, self, masters, patience, x, e, want)
	}
}

// P14.1: Open refuses numbers that are out of range before it looks at the disk, and changes nothing there.
func TestOpenOfInvalidNumbers(t *testing.T) {
	torn, off := given(t, me), given(t, me)
	torn.Append("torn")
	off.Crash(0)
	before, _ := torn.Read()
	for _, d := range []*disk.Disk{nil, torn, off, disk.New()} {
		for _, n := range []int{0, -1, 1001, 1002, 1 << 20, math.MinInt, math.MaxInt} {
			failed(t, "a bad patience", d, me, 3, n, api.ErrArg)
		}
		for _, masters := range []int{0, 1, -1, -3, math.MinInt} {
			failed(t, "a self above masters", d, me, masters, 5, api.ErrArg)
			failed(t, "a self above masters", d, 255, masters, 5, api.ErrArg)
		}
		for masters := range api.MaxMasters + 1 {
			failed(t, "a self above masters", d, uint8(masters+1), masters, 5, api.ErrArg)
		}
		for _, masters := range []int{0, -1, 6, 7, 255, 256, 256 + 3, math.MinInt, math.MaxInt} {
			for self := range uint8(7) {
				failed(t, "a bad number of masters", d, self, masters, 5, api.ErrArg)
			}
		}
		for masters := 1; masters <= api.MaxMasters; masters++ {
			failed(t, "master 0", d, 0, masters, 5, api.ErrArg)
		}
	}
	if s, _ := torn.Read(); s != before {
		t.Errorf("changed: %q, want %q", s, before)
	}
}

// P14.1: Open returns the error of the acceptor for a disk that can't be used.
func TestOpenOfAnUnusableDisk(t *testing.T) {
	for self := uint8(1); self <= 5; self++ {
		d := given(t, self)
		failed(t, "nil", nil, self, 5, 5, api.ErrArg)
		failed(t, "an empty disk", disk.New(), self, 5, 5, api.ErrNone)
		failed(t, "another's disk", d, self%5+1, 5, 5, api.ErrForm)
		d.Crash(0)
		failed(t, "a disk without power", d, self, 5, 5, api.ErrPower)
		d.Start()
		open(t, d, self, 5, 5, is{view: first(3)})
	}
}

// P14.1: an engine that is opened again has what its acceptor has, and nothing else: it asks for nothing and has forgotten what was decided behind the cut.
func TestOpenAgain(t *testing.T) {
	for n := range 3 * api.Kept {
		d, x, w := ahead(t, commands(n)...)
		w = is{view: first(3)}
		_, w = w.apply(commands(n / api.Kept * api.Kept)...)
		d.Crash(0)
		d.Start()
		x = open(t, d, me, 3, patience, w)
		if w.next > 0 {
			on(t, x, have(1, me, w.next-1, false), snap(me, 1, w.next, w.view))
		}
		base(t, x, ballot(1, 1), w.next)
		w = learns(t, x, w, decide(1, me, w.next, command(77)), []view.Command{command(77)})
		has(t, x, w)
	}
}

// P14.1: what was promised and accepted before is there when an engine is opened again, but not the refused ballot and the quiet time.
func TestOpenAgainKeepsPromises(t *testing.T) {
	d, x, w := leading(t, command(5), command(6))
	on(t, x, refuse(3, me, ballot(9, 9)))
	has(t, x, is{view: w.view})
	on(t, x, accept(1, me, ballot(2, 1), 3, command(7)), accepted(me, 1, ballot(2, 1), 3))
	waits(t, x, limit-1)
	d.Crash(0)
	d.Start()
	x = open(t, d, me, 3, patience, is{view: first(3)})
	on(t, x, prepare(3, me, mine, 0), refuse(me, 3, ballot(2, 1)))
	on(t, x, prepare(3, me, ballot(2, 2), 0), promise(me, 3, ballot(2, 2), 0, entry(0, mine, 5), entry(1, mine, 6), entry(3, ballot(2, 1), 7)))
	stands(t, x, limit, ballot(3, me))
}

// P14.1: an engine can be opened behind the last slot, where nothing is kept and nothing can be decided any more.
func TestOpenBehindTheLastSlot(t *testing.T) {
	for _, cut := range []uint32{1, api.Kept, 1 << 31, last - 1, last} {
		d := given(t, me)
		a, _ := acceptor.Open(d, me)
		if e := a.Truncate(cut, some(3)); e != api.OK {
			t.Fatal(e)
		}
		w := is{next: cut, view: some(3)}
		x := open(t, d, me, 3, patience, w)
		for i := range min(cut, 3) {
			on(t, x, have(3, me, cut-1-i, false), snap(me, 3, cut, some(3)))
			on(t, x, decide(3, me, cut-1-i, command(8)))
		}
		on(t, x, have(3, me, cut, false))
		stands(t, x, limit, mine)
		on(t, x, promise(3, me, mine, cut))
		w.leads = true
		has(t, x, w)
		if cut == last {
			refuses(t, x)
			continue
		}
		proposes(t, x, mine, cut, command(1))
		w.busy = 0
		w = learns(t, x, w, accepted(1, me, mine, cut), []view.Command{command(1)}, decisions(cut, command(1))...)
		has(t, x, w)
	}
}

// P14.1: an engine that has come to the end of the slots by itself is the same when it is opened again.
func TestEndOfSlots(t *testing.T) {
	d, x, w := made(t)
	on(t, x, snap(1, me, last-api.Kept-1, some(2)))
	w = is{next: last - api.Kept - 1, view: some(2)}
	stands(t, x, limit, mine)
	on(t, x, promise(3, me, mine, w.next))
	w.leads = true
	for i := range api.Kept + 1 {
		proposes(t, x, mine, w.next, command(i))
		w = learns(t, x, w, accepted(1, me, mine, w.next), []view.Command{command(i)}, decisions(w.next, command(i))...)
		has(t, x, w)
	}
	refuses(t, x)
	on(t, x, decide(1, me, last, command(1)))
	has(t, x, w)
	on(t, x, have(3, me, last-1, false), decide(me, 3, last-1, command(api.Kept)))
	on(t, x, accept(1, me, ballot(2, 1), last-2, command(1)), snap(me, 1, last, w.view))
	_, again := is{next: last - api.Kept - 1, view: some(2)}.apply(commands(api.Kept)...)
	x = open(t, d, me, 3, patience, again)
	again = learns(t, x, again, decide(3, me, last-1, command(api.Kept)), []view.Command{command(api.Kept)})
	has(t, x, again)
	if again.next != w.next || !view.Same(again.view, w.view) {
		t.Errorf("again: %v, want %v", again, w)
	}
}

// P14.1: a nil engine does nothing and has nothing.
func TestNil(t *testing.T) {
	var x *Engine
	has(t, x, is{})
	does(t, "Tick", x.Tick(), nil)
	for kind := range uint8(20) {
		for _, to := range []uint8{0, 1} {
			does(t, "On", x.On(frame.Frame{Head: head(kind, 2, to), Flag: true}), nil)
		}
	}
	refuses(t, x)
	has(t, x, is{})
}

// P14.2: an engine that is idle sends a Have to each of the others in ascending order, and stands with the tick with which its quiet time is patience plus three times its number.
func TestTickWhileIdle(t *testing.T) {
	for masters := 2; masters <= api.MaxMasters; masters++ {
		for self := uint8(1); int(self) <= masters; self++ {
			for _, patience := range []int{1, 2, 40, 1000} {
				w := is{view: first(3)}
				x := open(t, given(t, self), self, masters, patience, w)
				var haves, prepares []frame.Frame
				for to := uint8(1); int(to) <= masters; to++ {
					if to != self {
						haves = append(haves, have(self, to, 0, false))
						prepares = append(prepares, prepare(self, to, ballot(1, self), 0))
					}
				}
				for range patience + 3*int(self) - 1 {
					does(t, "Tick", x.Tick(), nil, haves...)
				}
				does(t, "Tick", x.Tick(), nil, slices.Concat(haves, prepares)...)
				does(t, "Tick", x.Tick(), nil, slices.Concat(haves, prepares)...)
				has(t, x, w)
			}
		}
	}
}

// P14.2: an engine that asks repeats its Prepares with each tick, and stands again, with a higher ballot, when it has been quiet for as long again.
func TestTickWhileItAsks(t *testing.T) {
	_, x, w := asking(t)
	for n := uint32(1); n < 5; n++ {
		repeated := slices.Concat(haves(0, false), prepares(ballot(n, me), 0))
		for range limit - 1 {
			does(t, "Tick", x.Tick(), nil, repeated...)
			has(t, x, w)
		}
		does(t, "Tick", x.Tick(), nil, slices.Concat(repeated, prepares(ballot(n+1, me), 0))...)
		has(t, x, w)
	}
	on(t, x, promise(1, me, ballot(4, me), 0))
	has(t, x, w)
	on(t, x, promise(1, me, ballot(5, me), 0))
	w.leads = true
	has(t, x, w)
}

// P14.2: an engine that asks tells from which slot it asks on, also if it has learned more since.
func TestTickWhileItAsksAndLearns(t *testing.T) {
	_, x, w := asking(t)
	for i := range 3 {
		w = learns(t, x, w, decide(3, me, uint32(i), command(i)), []view.Command{command(i)})
	}
	does(t, "Tick", x.Tick(), nil, slices.Concat(haves(3, false), prepares(mine, 0))...)
	for range limit - 2 {
		x.Tick()
	}
	does(t, "Tick", x.Tick(), nil, slices.Concat(haves(3, false), prepares(mine, 0), prepares(ballot(2, me), 3))...)
}

// P14.2: an engine that leads flags its Haves, repeats the Accepts of all its proposals in order, and never stands.
func TestTickWhileItLeads(t *testing.T) {
	l := commands(4)
	for n := range len(l) + 1 {
		_, x, w := leading(t, l[:n]...)
		for range 3 * limit {
			does(t, "Tick", x.Tick(), nil, slices.Concat(haves(0, true), accepts(mine, 0, l[:n]...))...)
			has(t, x, w)
		}
		if n < 3 {
			continue
		}
		on(t, x, accepted(1, me, mine, 1), decisions(1, l[1])...) // the slot 0 is missing
		w.busy--
		does(t, "Tick", x.Tick(), nil, slices.Concat(haves(0, true), accepts(mine, 0, l[0]), accepts(mine, 2, l[2:n]...))...)
		w = learns(t, x, w, accepted(1, me, mine, 0), l[:2], decisions(0, l[0])...)
		w.busy--
		does(t, "Tick", x.Tick(), nil, slices.Concat(haves(2, true), accepts(mine, 2, l[2:n]...))...)
		has(t, x, w)
	}
}

// P14.2: the quiet time does not grow while an engine leads, and goes on growing from there when it does not lead any more.
func TestQuietTimeBehindLeading(t *testing.T) {
	_, x, w := asking(t)
	for range 4 {
		x.Tick()
	}
	on(t, x, promise(3, me, mine, 0))
	for range 3 * limit {
		x.Tick()
	}
	on(t, x, refuse(3, me, ballot(6, 3)))
	has(t, x, w)
	stands(t, x, limit-4, ballot(7, me))
}

// P14.2: an engine stands with the ballot above the one that it has promised and above all with which it has been refused.
func TestStandsAboveAllBallots(t *testing.T) {
	for _, c := range []struct{ promised, refused, want mark.Ballot }{
		{ballot(0, 0), ballot(0, 0), ballot(1, me)},
		{ballot(4, 1), ballot(0, 0), ballot(5, me)},
		{ballot(4, 3), ballot(3, 9), ballot(5, me)},
		{ballot(4, 1), ballot(4, 3), ballot(5, me)},
		{ballot(4, 1), ballot(7, 1), ballot(8, me)},
		{ballot(0, 3), ballot(0, 5), ballot(1, me)},
		{ballot(last-1, 9), ballot(5, 3), ballot(last, me)},
		{ballot(3, 1), ballot(last-1, 255), ballot(last, me)},
	} {
		_, x, _ := made(t)
		on(t, x, refuse(1, me, c.refused))
		on(t, x, prepare(1, me, c.promised, 0), promise(me, 1, c.promised, 0))
		on(t, x, refuse(3, me, ballot(0, 1)))
		stands(t, x, limit, c.want)
	}
}

// P14.2: an engine for which there is no higher ballot does not stand.
func TestStandsWithNoBallotLeft(t *testing.T) {
	_, x, w := made(t)
	on(t, x, refuse(1, me, ballot(last, 0)))
	waits(t, x, 3*limit)
	has(t, x, w)
	_, x, w = made(t)
	on(t, x, prepare(1, me, ballot(last, 1), 0), promise(me, 1, ballot(last, 1), 0))
	waits(t, x, 3*limit)
	has(t, x, w)
	_, x, w = asking(t)
	on(t, x, accept(1, me, ballot(last, 1), 0, command(1)), accepted(me, 1, ballot(last, 1), 0))
	waits(t, x, 3*limit)
	has(t, x, w)
}

// P14.2: an engine whose disk fails does not stand: if it asks, it goes on to ask with the ballot that it has.
func TestStandsWithADiskThatFails(t *testing.T) {
	d, x, w := made(t)
	d.Crash(0)
	waits(t, x, 3*limit)
	has(t, x, w)
	d.Start()
	open(t, d, me, 3, patience, w)
	d, x, w = asking(t)
	d.Crash(0)
	for range 3 * limit {
		does(t, "Tick", x.Tick(), nil, slices.Concat(haves(0, false), prepares(mine, 0))...)
	}
	on(t, x, promise(3, me, mine, 0))
	w.leads = true
	has(t, x, w)
}

// P14.2: an engine begins to stand with the slot that it has not applied, and its own promise has what it has accepted from there on.
func TestStandsFromTheNextSlot(t *testing.T) {
	_, x, w := made(t)
	for i := range 6 {
		b := ballot(1, 1)
		on(t, x, accept(1, me, b, uint32(2*i), command(i)), accepted(me, 1, b, uint32(2*i)))
	}
	l := []view.Command{command(0), command(11), command(1)}
	for i, c := range l {
		w = learns(t, x, w, decide(1, me, uint32(i), c), []view.Command{c})
	}
	b := ballot(2, me)
	stands(t, x, limit, b)
	noop := view.Command{}
	on(t, x, promise(1, me, b, 3), accepts(b, 3, noop, command(2), noop, command(3), noop, command(4), noop, command(5))...)
	w.leads, w.busy = true, 8
	has(t, x, w)
}

// P14.2: the only master leads as soon as it stands, and what it had accepted before is decided by this.
func TestStandsAsTheOnlyMaster(t *testing.T) {
	d := given(t, 1)
	a, _ := acceptor.Open(d, 1)
	for i, slot := range []uint32{0, 3, 4, 12} {
		if e := a.Accept(ballot(7, 1), slot, command(i)); e != api.OK {
			t.Fatal(e)
		}
	}
	w := is{view: first(3)}
	x := open(t, d, 1, 1, 1, w)
	for range 3 {
		does(t, "Tick", x.Tick(), nil)
	}
	l := make([]view.Command, 13)
	l[0], l[3], l[4], l[12] = command(0), command(1), command(2), command(3)
	applied, w := w.apply(l...)
	does(t, "Tick", x.Tick(), applied)
	w.leads = true
	has(t, x, w)
	d.Crash(0)
	out, ok := x.Propose(command(4))
	if !ok {
		t.Errorf("Propose: false")
	}
	does(t, "Propose without power", out, nil)
	w.busy = 1
	has(t, x, w)
	does(t, "Tick", x.Tick(), nil)
	d.Start()
	w = is{view: first(3)}
	_, w = w.apply(l[:8]...)
	x = open(t, d, 1, 1, 1000, w)
	for range 1002 {
		x.Tick()
	}
	applied, w = w.apply(l[8:]...)
	does(t, "Tick", x.Tick(), applied)
	w.leads = true
	has(t, x, w)
}

// P14.4: an engine proposes only if it leads.
func TestProposeOnlyLeading(t *testing.T) {
	_, x, w := made(t)
	refuses(t, x)
	has(t, x, w)
	_, x, w = asking(t)
	refuses(t, x)
	has(t, x, w)
	on(t, x, promise(1, me, mine, 0))
	proposes(t, x, mine, 0, command(1))
	on(t, x, refuse(1, me, ballot(2, 1)))
	refuses(t, x)
	has(t, x, w)
}

// P14.4: up to four proposals are pending, and each that is decided makes room; a proposal is accepted locally.
func TestPropose(t *testing.T) {
	l := commands(4)
	_, x, w := leading(t, l...)
	refuses(t, x)
	has(t, x, w)
	on(t, x, accepted(3, me, mine, 2), decisions(2, l[2])...)
	w.busy = 3
	has(t, x, w)
	proposes(t, x, mine, 4, command(9))
	w.busy = 4
	has(t, x, w)
	refuses(t, x)
	w = learns(t, x, w, accepted(1, me, mine, 0), l[:1], decisions(0, l[0])...)
	w = learns(t, x, w, accepted(1, me, mine, 1), l[1:3], decisions(1, l[1])...)
	w.busy = 2
	has(t, x, w)
	proposes(t, x, mine, 5, command(10))
	proposes(t, x, mine, 6, command(11))
	refuses(t, x)
	on(t, x, prepare(1, me, ballot(2, 1), 3), promise(me, 1, ballot(2, 1), 3, entry(3, mine, 3), entry(4, mine, 9), entry(5, mine, 10), entry(6, mine, 11)))
}

// P14.4: an engine with more than four proposals, which it has from other masters, proposes nothing before fewer than four are left.
func TestProposeBehindEntries(t *testing.T) {
	_, x, w := asking(t)
	on(t, x, promise(1, me, mine, 0, entry(5, ballot(0, 1), 5)), accepts(mine, 0, view.Command{}, view.Command{}, view.Command{}, view.Command{}, view.Command{}, command(5))...)
	w.leads = true
	for busy := 6; busy >= 4; busy-- {
		w.busy = busy
		has(t, x, w)
		refuses(t, x)
		c := view.Command{}
		w = learns(t, x, w, accepted(3, me, mine, w.next), []view.Command{c}, decisions(w.next, c)...)
	}
	w.busy = 3
	has(t, x, w)
	proposes(t, x, mine, 6, command(6))
	refuses(t, x)
}

// P14.4: what can't be accepted locally is proposed all the same; then the others have to make the majority.
func TestProposeWithADiskThatFails(t *testing.T) {
	d, x, w := leading(t, command(0))
	d.Crash(0)
	proposes(t, x, mine, 1, command(1))
	w = learns(t, x, w, accepted(1, me, mine, 0), []view.Command{command(0)}, decisions(0, command(0))...)
	on(t, x, accepted(1, me, mine, 1))
	w.busy = 1
	has(t, x, w)
	w = learns(t, x, w, accepted(3, me, mine, 1), []view.Command{command(1)}, decisions(1, command(1))...)
	w.busy = 0
	has(t, x, w)
}

// P14.4: a proposal for a slot that the acceptor has no room for is sent to the others, and not accepted locally.
func TestProposeAboveTheWindow(t *testing.T) {
	_, x, w := asking(t)
	on(t, x, promise(1, me, mine, 0))
	w.leads = true
	for i := range 14 {
		c := command(i)
		proposes(t, x, mine, uint32(i), c)
		w = learns(t, x, w, accepted(3, me, mine, uint32(i)), []view.Command{c}, decisions(uint32(i), c)...)
	}
	for i := range 4 {
		proposes(t, x, mine, uint32(14+i), command(i)) // the slots below 8 are cut
	}
	refuses(t, x)
	w.busy = 4
	has(t, x, w)
	_, x, w = asking(t)
	on(t, x, promise(1, me, mine, 0, entry(14, ballot(0, 1), 3)), accepts(mine, 0, append(make([]view.Command, 14), command(3))...)...)
	for i := 14; i > 3; i-- {
		c := view.Command{}
		if i == 14 {
			c = command(3)
		}
		on(t, x, accepted(3, me, mine, uint32(i)), decisions(uint32(i), c)...)
	}
	refuses(t, x) // four are left, of the slots 0 to 3
	on(t, x, accepted(3, me, mine, 3), decisions(3, view.Command{})...)
	proposes(t, x, mine, 15, command(15))
	on(t, x, accepted(3, me, mine, 2), decisions(2, view.Command{})...)
	proposes(t, x, mine, 16, command(16)) // which is 16 above the first slot that is not cut
	on(t, x, accepted(3, me, mine, 15), decisions(15, command(15))...)
	on(t, x, accepted(3, me, mine, 16))
	on(t, x, accepted(1, me, mine, 16), decisions(16, command(16))...)
	has(t, x, is{view: w.view, leads: true, busy: 2})
}
