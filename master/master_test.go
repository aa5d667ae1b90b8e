package master

import (
	"math"
	"slices"
	"testing"

	"talaria/acceptor"
	"talaria/api"
	"talaria/disk"
	"talaria/frame"
	"talaria/learner"
	"talaria/mark"
	"talaria/paxos"
	"talaria/view"
)

// The type has the fields of the chapter, and only these: otherwise this does not compile.
var _ = struct {
	Self                                    uint8
	Masters, Nodes, Patience, Suspect, Wait int
}(Config{})

const (
	me       = 2    // the master of most tests, of which there are three
	patience = 5    // its patience
	limit    = 11   // the tick with which it stands
	never    = 1000 // ticks that no test waits for
)

// mine is the first ballot with which it stands.
var mine = mark.Ballot{Mark: mark.Mark{N: 1, By: me}}

// is is what a master should have.
type is struct {
	next  uint32
	view  view.View
	leads bool
}

// first returns the view of so many nodes.
func first(nodes int) view.View {
	v, _ := view.First(nodes)
	return v
}

func grant(node, life uint8, epoch, req uint32) view.Command {
	return view.Command{Kind: view.Grant, Node: node, Life: life, Epoch: epoch, Req: req}
}

func remove(node, life uint8) view.Command {
	return view.Command{Kind: view.Remove, Node: node, Life: life}
}

func add(node, life uint8) view.Command {
	return view.Command{Kind: view.Add, Node: node, Life: life}
}

func settle(node, life uint8) view.Command {
	return view.Command{Kind: view.Settle, Node: node, Life: life}
}

func head(kind, from, to uint8) frame.Head { return frame.Head{Kind: kind, From: from, To: to} }

// hello returns the Hello of a node to master 2.
func hello(node, life uint8, epoch, req uint32, complete bool) frame.Frame {
	return frame.Frame{Head: head(frame.Hello, 16+node, me), Life: life, Epoch: epoch, Req: req, Flag: complete}
}

// news returns what master 2 tells a node of its view.
func news(node uint8, v view.View) frame.Frame {
	return frame.Frame{Head: head(frame.News, me, 16+node), View: v}
}

// lease returns what master 2 sends to a node for a Grant.
func lease(c view.Command) frame.Frame {
	return frame.Frame{Head: head(frame.Lease, me, 16+c.Node), Epoch: c.Epoch, Life: c.Life, Req: c.Req}
}

func promise(from uint8, slot uint32, l ...frame.Entry) frame.Frame {
	return frame.Frame{Head: head(frame.Promise, from, me), Ballot: mine, Slot: slot, Entries: l}
}

func accepted(from uint8, slot uint32) frame.Frame {
	return frame.Frame{Head: head(frame.Accepted, from, me), Ballot: mine, Slot: slot}
}

func decide(slot uint32, c view.Command) frame.Frame {
	return frame.Frame{Head: head(frame.Decide, 1, me), Slot: slot, Command: c}
}

func snap(slot uint32, v view.View) frame.Frame {
	return frame.Frame{Head: head(frame.Snap, 3, me), Slot: slot, View: v}
}

// both returns a frame of master 2 to each of the others.
func both(f frame.Frame) []frame.Frame {
	l := []frame.Frame{f, f}
	l[0].From, l[0].To = me, 1
	l[1].From, l[1].To = me, 3
	return l
}

func haves(slot uint32, leads bool) []frame.Frame {
	return both(frame.Frame{Head: head(frame.Have, 0, 0), Slot: slot, Flag: leads})
}

func accepts(slot uint32, c view.Command) []frame.Frame {
	return both(frame.Frame{Head: head(frame.Accept, 0, 0), Ballot: mine, Slot: slot, Command: c})
}

func decisions(slot uint32, c view.Command) []frame.Frame {
	return both(frame.Frame{Head: head(frame.Decide, 0, 0), Slot: slot, Command: c})
}

// equal reports whether two calls have sent and applied the same.
func equal(a, b paxos.Out) bool {
	return slices.EqualFunc(a.Frames, b.Frames, frame.Same) &&
		slices.EqualFunc(a.Applied, b.Applied, func(a, b learner.Applied) bool {
			return a.Slot == b.Slot && a.Command == b.Command && a.Holds == b.Holds && view.Same(a.View, b.View)
		})
}

// does checks what a call has sent and applied.
func does(t *testing.T, what string, got paxos.Out, applied []learner.Applied, frames ...frame.Frame) {
	t.Helper()
	want := paxos.Out{Frames: frames, Applied: applied}
	if !equal(got, want) {
		t.Fatalf("%s:\n%+v, want\n%+v", what, got, want)
	}
}

// apply returns what is applied by commands from there on, and what a master has then.
func (w is) apply(l ...view.Command) ([]learner.Applied, is) {
	var all []learner.Applied
	for _, c := range l {
		v, holds := w.view.Apply(c)
		all = append(all, learner.Applied{Slot: w.next, Command: c, Holds: holds, View: v})
		w.view = v
		w.next++
	}
	return all, w
}

// has checks all that a master tells.
func has(t *testing.T, m *Master, want is) {
	t.Helper()
	if next, v := m.Next(); next != want.next || !view.Same(v, want.view) {
		t.Fatalf("Next: %d %v, want %d %v", next, v, want.next, want.view)
	}
	if leads := m.Leads(); leads != want.leads {
		t.Fatalf("Leads: %v, want %v", leads, want.leads)
	}
}

// given returns the disk of a master whose slots begin with a view of three nodes.
func given(t *testing.T, self uint8) *disk.Disk {
	t.Helper()
	d := disk.New()
	if e := acceptor.Make(d, self, first(3)); e != api.OK {
		t.Fatalf("Make: %v", e)
	}
	return d
}

// open opens a master's disk.
func open(t *testing.T, d *disk.Disk, c Config) *Master {
	t.Helper()
	m, e := Open(d, c)
	if m == nil || e != api.OK {
		t.Fatalf("Open(%+v): %v %v", c, m, e)
	}
	return m
}

// made returns master 2 of three, which suspects and waits for so many ticks.
func made(t *testing.T, suspect, wait int) (*Master, is) {
	t.Helper()
	m := open(t, given(t, me), Config{Self: me, Masters: 3, Nodes: 3, Patience: patience, Suspect: suspect, Wait: wait})
	w := is{view: first(3)}
	has(t, m, w)
	return m, w
}

// leading returns master 2, which leads after its eleventh tick. Nothing is pending.
func leading(t *testing.T, suspect, wait int) (*Master, is) {
	t.Helper()
	m, w := made(t, suspect, wait)
	for range limit {
		m.Tick()
	}
	on(t, m, promise(3, 0))
	w.leads = true
	has(t, m, w)
	return m, w
}

// only returns the only master, which leads with its fourth tick.
func only(t *testing.T, nodes, suspect, wait int) (*Master, is) {
	t.Helper()
	m := open(t, given(t, 1), Config{Self: 1, Masters: 1, Nodes: nodes, Patience: 1, Suspect: suspect, Wait: wait})
	return m, is{view: first(3)}
}

// on checks what a master sends for a frame, by which it applies nothing.
func on(t *testing.T, m *Master, f frame.Frame, want ...frame.Frame) {
	t.Helper()
	does(t, "On", m.On(f), nil, want...)
}

// learns checks that a frame makes a master apply commands and send frames, and returns what it has then.
func learns(t *testing.T, m *Master, w is, f frame.Frame, l []view.Command, want ...frame.Frame) is {
	t.Helper()
	applied, w := w.apply(l...)
	does(t, "On", m.On(f), applied, want...)
	has(t, m, w)
	return w
}

// proposes checks that master 2, which leads, proposes a command with the next tick, or nothing if it is the zero command.
func proposes(t *testing.T, m *Master, w is, c view.Command) {
	t.Helper()
	want := haves(w.next, true)
	if c != (view.Command{}) {
		want = append(want, accepts(w.next, c)...)
	}
	does(t, "Tick", m.Tick(), nil, want...)
	has(t, m, w)
}

// decides checks that master 2 proposes a command with the next tick, and that it is decided when master 3 has accepted it.
func decides(t *testing.T, m *Master, w is, c view.Command, more ...frame.Frame) is {
	t.Helper()
	proposes(t, m, w, c)
	return learns(t, m, w, accepted(3, w.next), []view.Command{c}, append(decisions(w.next, c), more...)...)
}

// silent checks that master 2, which leads, proposes nothing for so many ticks.
func silent(t *testing.T, m *Master, w is, ticks int) {
	t.Helper()
	for range ticks {
		proposes(t, m, w, view.Command{})
	}
}

// P16.1 to P16.3: the example of the chapter.
func TestExample(t *testing.T) {
	m, w := only(t, 3, never, never)
	f := hello(1, 1, 1, 5, false)
	f.To = 1
	on(t, m, f)
	for range 3 {
		does(t, "Tick", m.Tick(), nil)
	}
	applied, w := w.apply(grant(1, 1, 1, 5))
	does(t, "Tick", m.Tick(), applied, frame.Frame{Head: frame.Head{Kind: frame.Lease, From: 1, To: 17}, Epoch: 1, Life: 1, Req: 5})
	w.leads = true
	has(t, m, w)
	for range 20 {
		does(t, "Tick", m.Tick(), nil)
	}
	has(t, m, w)
}

// P16.1: a master opens for each of its numbers, and with the least and the greatest numbers of the others; it begins as its engine does.
func TestOpen(t *testing.T) {
	for masters := 1; masters <= api.MaxMasters; masters++ {
		for self := 1; self <= masters; self++ {
			for nodes := 1; nodes <= api.MaxNodes; nodes++ {
				c := Config{Self: uint8(self), Masters: masters, Nodes: nodes, Patience: 1000, Suspect: 1000, Wait: 1000}
				has(t, open(t, given(t, c.Self), c), is{view: first(3)})
			}
		}
	}
	has(t, open(t, given(t, 1), Config{Self: 1, Masters: 1, Nodes: 1, Patience: 1, Suspect: 1, Wait: 1}), is{view: first(3)})
	d := disk.New()
	v, _ := first(5).Apply(remove(4, 1))
	if e := acceptor.Make(d, 3, v); e != api.OK {
		t.Fatal(e)
	}
	a, _ := acceptor.Open(d, 3)
	c := Config{Self: 3, Masters: 3, Nodes: 2, Patience: 1, Suspect: 1, Wait: 1}
	has(t, open(t, d, c), is{view: v})
	if e := a.Truncate(40, first(7)); e != api.OK {
		t.Fatal(e)
	}
	has(t, open(t, d, c), is{next: 40, view: first(7)})
}

// refused checks that a master does not open, and that its disk is as it was.
func refused(t *testing.T, d *disk.Disk, c Config, want api.Errno) {
	t.Helper()
	before, _ := d.Read()
	if m, e := Open(d, c); m != nil || e != want {
		t.Errorf("Open(%+v): %v %v, want %v", c, m, e, want)
	}
	if after, _ := d.Read(); after != before {
		t.Errorf("Open(%+v) has changed the disk", c)
	}
}

// invalid returns configurations that are invalid in at least one way.
func invalid(valid Config) []Config {
	var l []Config
	for _, n := range []int{math.MinInt, math.MinInt32, -256, -1, 0, 1001, 1 << 16, 1<<32 + 1, 1<<32 + 5, math.MaxInt} {
		a, b, c, d, e := valid, valid, valid, valid, valid
		a.Nodes, b.Masters, c.Patience, d.Suspect, e.Wait = n, n, n, n, n
		l = append(l, a, b, c, d, e, Config{valid.Self, n, n, n, n, n})
	}
	for _, n := range []int{api.MaxNodes + 1, 16, 257, 264} {
		c := valid
		c.Nodes = n
		l = append(l, c)
	}
	for _, n := range []int{api.MaxMasters + 1, 255, 257, 260, 1, 2} {
		c := valid
		c.Masters = n // at least its number is greater
		l = append(l, c)
	}
	for _, self := range []uint8{0, 5, 6, 17, 129, 131, 255} {
		c := valid
		c.Self = self
		l = append(l, c)
	}
	return append(l, Config{})
}

// P16.1: an invalid configuration is ErrArg, whatever the disk is, and then the disk is not even read.
func TestOpenOfInvalid(t *testing.T) {
	for _, c := range invalid(Config{Self: 3, Masters: 4, Nodes: 3, Patience: 5, Suspect: 5, Wait: 5}) {
		d := given(t, 3)
		refused(t, d, c, api.ErrArg)
		d.Append("a record that is not complete, which the engine would cut")
		refused(t, d, c, api.ErrArg)
		d.Crash(0)
		refused(t, d, c, api.ErrArg)
		refused(t, disk.New(), c, api.ErrArg)
		refused(t, given(t, 4), c, api.ErrArg)
		refused(t, nil, c, api.ErrArg)
	}
}

// P16.1: what the engine does not open is no master.
func TestOpenOfDisks(t *testing.T) {
	for self := uint8(1); self <= 4; self++ {
		c := Config{Self: self, Masters: 4, Nodes: 3, Patience: 5, Suspect: 5, Wait: 5}
		refused(t, nil, c, api.ErrArg)
		refused(t, disk.New(), c, api.ErrNone)
		d := given(t, self%4+1)
		refused(t, d, c, api.ErrForm)
		d.Crash(0)
		refused(t, d, c, api.ErrPower)
		d.Start()
		refused(t, d, c, api.ErrForm)
		d = given(t, self)
		d.Crash(0)
		refused(t, d, c, api.ErrPower)
		d.Start()
		has(t, open(t, d, c), is{view: first(3)})
	}
}

// P16.1: a nil master does nothing and has nothing.
func TestNil(t *testing.T) {
	var m *Master
	has(t, m, is{})
	does(t, "Tick", m.Tick(), nil)
	for kind := range uint8(20) {
		for _, from := range []uint8{0, 1, 2, 16, 17} {
			for to := range uint8(3) {
				on(t, m, frame.Frame{Head: head(kind, from, to), Life: 1, Flag: true, View: first(2)})
			}
		}
	}
	has(t, m, is{})
}

// P16.2: a master that does not lead proposes nothing, whatever its roster wants; one that stands neither.
func TestTickWithoutLeading(t *testing.T) {
	m, w := made(t, never, never)
	on(t, m, hello(1, 1, 1, 5, false))
	for range limit - 1 {
		does(t, "Tick", m.Tick(), nil, haves(0, false)...)
	}
	prepares := both(frame.Frame{Head: head(frame.Prepare, 0, 0), Ballot: mine})
	does(t, "Tick", m.Tick(), nil, slices.Concat(haves(0, false), prepares)...)
	does(t, "Tick", m.Tick(), nil, slices.Concat(haves(0, false), prepares)...)
	has(t, m, w)
	on(t, m, promise(1, 0))
	w.leads = true
	has(t, m, w)
	w = decides(t, m, w, grant(1, 1, 1, 5), lease(grant(1, 1, 1, 5)))
	on(t, m, hello(1, 1, 1, 6, false))
	on(t, m, frame.Frame{Head: head(frame.Refuse, 1, me), Ballot: mark.Ballot{Mark: mark.Mark{N: 2, By: 1}}})
	w.leads = false
	has(t, m, w)
	for range limit - 2 { // it was quiet for one tick while it asked
		does(t, "Tick", m.Tick(), nil, haves(1, false)...)
	}
	has(t, m, w)
}

// P16.2: a master that leads proposes what its roster wants, one command after another: as long as one is pending, it only repeats that.
func TestTickWhileLeading(t *testing.T) {
	m, w := leading(t, never, never)
	silent(t, m, w, 3)
	on(t, m, hello(2, 1, 1, 5, false))
	c := grant(2, 1, 1, 5)
	proposes(t, m, w, c)
	on(t, m, hello(1, 1, 1, 9, false)) // comes first in the view, but late
	on(t, m, hello(2, 1, 1, 6, false))
	for range 3 {
		does(t, "Tick", m.Tick(), nil, slices.Concat(haves(0, true), accepts(0, c))...)
	}
	w = learns(t, m, w, accepted(1, 0), []view.Command{c}, append(decisions(0, c), lease(c))...)
	w = decides(t, m, w, grant(1, 1, 1, 9), lease(grant(1, 1, 1, 9)))
	w = decides(t, m, w, grant(2, 1, 1, 6), lease(grant(2, 1, 1, 6)))
	silent(t, m, w, 3)
}

// P16.2: a master that leads with proposals that others had accepted proposes nothing before all of them are decided.
func TestTickWithOthersProposals(t *testing.T) {
	m, w := made(t, never, never)
	on(t, m, hello(3, 1, 1, 5, false))
	for range limit {
		m.Tick()
	}
	b := mark.Ballot{Mark: mark.Mark{N: 0, By: 1}}
	theirs := grant(1, 1, 1, 4)
	all := slices.Concat(accepts(0, view.Command{}), accepts(1, theirs))
	on(t, m, promise(1, 0, frame.Entry{Slot: 1, Ballot: b, Command: theirs}), all...)
	w.leads = true
	does(t, "Tick", m.Tick(), nil, slices.Concat(haves(0, true), all)...)
	on(t, m, accepted(3, 1), decisions(1, theirs)...)
	does(t, "Tick", m.Tick(), nil, slices.Concat(haves(0, true), accepts(0, view.Command{}))...)
	w = learns(t, m, w, accepted(3, 0), []view.Command{{}, theirs}, append(decisions(0, view.Command{}), lease(theirs))...)
	decides(t, m, w, grant(3, 1, 1, 5), lease(grant(3, 1, 1, 5)))
}

// P16.2: a tick by which the engine applies something follows up on that before it asks the roster, and returns what both calls sent and applied, in order.
func TestTickOfBothCalls(t *testing.T) {
	d := given(t, 1)
	a, _ := acceptor.Open(d, 1)
	l := []view.Command{grant(1, 1, 1, 5), grant(3, 1, 1, 8), remove(2, 1), grant(3, 1, 1, 9)}
	for i, c := range l {
		if e := a.Accept(mark.Ballot{}, uint32(i), c); e != api.OK {
			t.Fatal(e)
		}
	}
	m := open(t, d, Config{Self: 1, Masters: 1, Nodes: 3, Patience: 1, Suspect: never, Wait: never})
	w := is{view: first(3)}
	for _, f := range []frame.Frame{hello(1, 1, 1, 5, false), hello(3, 1, 1, 8, false), hello(3, 1, 2, 7, false), hello(1, 1, 1, 6, false)} {
		f.To = 1
		m.On(f)
	}
	for range 3 {
		does(t, "Tick", m.Tick(), nil)
	}
	own := func(c view.Command) frame.Frame {
		f := lease(c)
		f.From = 1
		return f
	}
	applied, w := w.apply(append(l, grant(3, 1, 2, 7))...)
	if applied[3].Holds || !applied[4].Holds {
		t.Fatalf("%+v", applied)
	}
	does(t, "Tick", m.Tick(), applied, own(l[0]), own(l[1]), own(grant(3, 1, 2, 7)))
	w.leads = true
	has(t, m, w)
	f := hello(1, 1, 2, 5, false)
	f.To = 1
	on(t, m, f)
	applied, w = w.apply(grant(1, 1, 2, 5))
	does(t, "Tick", m.Tick(), applied, own(grant(1, 1, 2, 5)))
	has(t, m, w)
}

// P16.2: the roster ticks before it is asked: the tick number wait removes a member.
func TestTickOfTheRoster(t *testing.T) {
	for _, wait := range []int{4, 5, 30, 999, 1000} {
		m, w := only(t, 3, 1, wait)
		for range wait - 1 {
			does(t, "Tick", m.Tick(), nil)
		}
		applied, w := w.apply(remove(1, 1))
		does(t, "Tick", m.Tick(), applied)
		applied, w = w.apply(remove(2, 1))
		does(t, "Tick", m.Tick(), applied)
		does(t, "Tick", m.Tick(), nil) // the last one remains
		w.leads = true
		has(t, m, w)
	}
}

// P16.2: the roster ticks before the engine does: what is granted by a tick is granted after it.
func TestTickOfTheRosterFirst(t *testing.T) {
	d := given(t, 1)
	a, _ := acceptor.Open(d, 1)
	l := []view.Command{grant(1, 1, 1, 5), grant(2, 1, 1, 5), grant(3, 1, 1, 5)}
	for i, c := range l {
		if e := a.Accept(mark.Ballot{}, uint32(i), c); e != api.OK {
			t.Fatal(e)
		}
	}
	m := open(t, d, Config{Self: 1, Masters: 1, Nodes: 3, Patience: 1, Suspect: 1, Wait: 30})
	w := is{view: first(3), leads: true}
	for range 4 {
		m.Tick()
	}
	_, w = w.apply(l...)
	has(t, m, w)
	for range 29 {
		does(t, "Tick", m.Tick(), nil)
	}
	applied, _ := w.apply(remove(1, 1))
	does(t, "Tick", m.Tick(), applied)
}

// P16.2: a disk that fails does not keep a master from proposing; then the others have to make the majority.
func TestTickWithADiskThatFails(t *testing.T) {
	d := given(t, me)
	m := open(t, d, Config{Self: me, Masters: 3, Nodes: 3, Patience: patience, Suspect: never, Wait: never})
	w := is{view: first(3), leads: true}
	for range limit {
		m.Tick()
	}
	on(t, m, promise(3, 0))
	d.Crash(0)
	on(t, m, hello(1, 1, 1, 5, false))
	c := grant(1, 1, 1, 5)
	proposes(t, m, w, c)
	on(t, m, accepted(1, 0))
	learns(t, m, w, accepted(3, 0), []view.Command{c}, append(decisions(0, c), lease(c))...)
}

// P16.2: at the end of the slots a master proposes nothing, although it leads and its roster wants something.
func TestEndOfSlots(t *testing.T) {
	m, w := leading(t, never, never)
	w.next = math.MaxUint32 - 1
	on(t, m, snap(w.next, w.view))
	on(t, m, hello(1, 1, 1, 5, false))
	w = decides(t, m, w, grant(1, 1, 1, 5), lease(grant(1, 1, 1, 5)))
	on(t, m, hello(1, 1, 1, 6, false))
	silent(t, m, w, 3)
}

// P16.2, P16.3: each master that applies a Grant that holds sends a Lease; for one that does not hold, and for other commands, none is sent.
func TestLeases(t *testing.T) {
	m, w := made(t, never, never)
	l := []view.Command{
		grant(1, 1, 1, 5), grant(1, 1, 1, 5), grant(3, 1, 1, math.MaxUint32), grant(2, 1, 1, 0), // which hold
		grant(1, 1, 2, 6), grant(1, 2, 1, 6), grant(1, 0, 1, 6), grant(4, 1, 1, 6), grant(0, 1, 1, 6), // which don't
		{}, add(4, 1), settle(4, 1), remove(4, 1), {Kind: 5, Node: 1, Life: 1, Epoch: 1}, {Kind: 132, Node: 1, Life: 1, Epoch: 3},
		grant(1, 1, 1, 7), grant(2, 1, 3, 8),
	}
	for i, c := range l {
		var want []frame.Frame
		if i < 4 || i == len(l)-1 {
			want = []frame.Frame{lease(c)}
		}
		w = learns(t, m, w, decide(uint32(i), c), []view.Command{c}, want...)
		on(t, m, decide(uint32(i), c)) // which is applied once
	}
}

// P16.3: several commands that a call applies are followed up in order.
func TestLeasesInOrder(t *testing.T) {
	m, w := made(t, never, never)
	l := []view.Command{grant(3, 1, 1, 5), grant(1, 1, 1, 6), add(5, 1), grant(1, 1, 1, 7), grant(5, 1, 2, 8), remove(1, 1), grant(1, 1, 3, 9), grant(3, 1, 3, 9)}
	for i := len(l) - 1; i > 0; i-- {
		on(t, m, decide(uint32(i), l[i]))
	}
	learns(t, m, w, decide(0, l[0]), l, lease(l[0]), lease(l[1]), lease(l[4]), lease(l[7]))
}

// P16.2, P16.3: the frames of a call come before the Leases.
func TestFramesBeforeLeases(t *testing.T) {
	m, w := leading(t, never, never)
	on(t, m, hello(2, 1, 1, 5, false))
	c := grant(2, 1, 1, 5)
	proposes(t, m, w, c)
	out := m.On(accepted(3, 0))
	applied, _ := w.apply(c)
	does(t, "On", out, applied, append(decisions(0, c), lease(c))...)
	if n := len(out.Frames); out.Frames[n-1].Kind != frame.Lease {
		t.Errorf("%+v", out.Frames)
	}
}

// P16.3: what another master granted is known to the roster: it is not granted again, and its node is not removed before wait ticks.
func TestGrantedByAnother(t *testing.T) {
	m, w := leading(t, 1, 40)
	on(t, m, hello(2, 1, 1, 5, false))
	for slot, c := range []view.Command{grant(2, 1, 1, 5), grant(3, 1, 1, 5)} {
		w = learns(t, m, w, decide(uint32(slot), c), []view.Command{c}, lease(c))
	}
	silent(t, m, w, 28) // up to the tick 39
	w = decides(t, m, w, remove(1, 1))
	silent(t, m, w, 10)
	w = decides(t, m, w, remove(2, 1)) // with the tick 51: the leases were granted behind the tick 11
	silent(t, m, w, 5)
}

// P16.3: a Grant that does not hold grants nothing: no Remove waits for it, and the lease can still be granted.
func TestGrantThatDoesNotHold(t *testing.T) {
	c := grant(1, 1, 2, 5)
	m, w := leading(t, 1, 40)
	w = learns(t, m, w, decide(0, c), []view.Command{c})
	silent(t, m, w, 28)
	decides(t, m, w, remove(1, 1))
	m, w = leading(t, never, never)
	w = learns(t, m, w, decide(0, c), []view.Command{c})
	w = learns(t, m, w, decide(1, remove(2, 1)), []view.Command{remove(2, 1)})
	on(t, m, hello(1, 1, 2, 5, false))
	decides(t, m, w, c, lease(c))
}

// P16.3: after slots that were skipped by a snapshot, each node may have a lease: none is removed before wait ticks.
func TestSkippedSlots(t *testing.T) {
	for _, x := range []struct {
		waiting []uint32 // slots in which a Noop waits
		slot    uint32   // of the snapshot
		next    uint32
	}{
		{nil, 1, 1},
		{nil, 2, 2},
		{nil, 500, 500},
		{nil, math.MaxUint32 - 3, math.MaxUint32 - 3},
		{[]uint32{1, 2, 3, 4, 5}, 1, 6},
		{[]uint32{3, 4}, 3, 5},
		{[]uint32{1, 2, 3, 4, 5}, 6, 6},
		{[]uint32{2, 4}, 4, 5},
	} {
		m, w := leading(t, 1, 40)
		silent(t, m, w, 9)
		for _, slot := range x.waiting {
			on(t, m, decide(slot, view.Command{}))
		}
		w.next = x.slot
		learns(t, m, w, snap(x.slot, w.view), make([]view.Command, x.next-x.slot))
		w.next = x.next
		silent(t, m, w, 39) // from the tick 21 on
		w = decides(t, m, w, remove(1, 1))
		w = decides(t, m, w, remove(2, 1))
		silent(t, m, w, 3)
	}
}

// P16.3: no slot is skipped by commands that are applied one after another or several at once, nor by a snapshot that is not ahead.
func TestNoSkippedSlots(t *testing.T) {
	m, w := leading(t, 1, 40)
	silent(t, m, w, 9)
	w = learns(t, m, w, decide(0, view.Command{}), []view.Command{{}})
	for slot := uint32(12); slot > 1; slot-- {
		on(t, m, decide(slot, view.Command{}))
	}
	w = learns(t, m, w, decide(1, view.Command{}), make([]view.Command, 12))
	on(t, m, snap(13, first(8)))
	on(t, m, snap(2, first(8)))
	on(t, m, decide(15, view.Command{}))
	on(t, m, decide(3, add(8, 1)))
	silent(t, m, w, 19) // up to the tick 39
	decides(t, m, w, remove(1, 1))
}

// P16.3: what is applied behind skipped slots is followed up too: the leases are known, and sent.
func TestSkippedSlotsAndLeases(t *testing.T) {
	m, w := leading(t, 1, 40)
	silent(t, m, w, 9)
	v, _ := w.view.Apply(remove(2, 1))
	l := []view.Command{grant(3, 1, 2, 5), grant(1, 1, 1, 5), grant(1, 1, 2, 6)}
	for i, c := range l {
		on(t, m, decide(uint32(4+i), c))
	}
	w.next, w.view = 4, v
	w = learns(t, m, w, snap(4, v), l, lease(l[0]), lease(l[2]))
	on(t, m, hello(3, 1, 2, 5, false))
	on(t, m, hello(1, 1, 2, 5, false))
	w = decides(t, m, w, grant(1, 1, 2, 5), lease(grant(1, 1, 2, 5)))
	silent(t, m, w, 38) // from the tick 22 on
	decides(t, m, w, remove(3, 1))
}

// P16.2: slots that the engine skips are followed up in every call; those of an earlier call do not count.
func TestSkippedSlotsOnce(t *testing.T) {
	m, w := leading(t, 1, 40)
	w.next = 30
	on(t, m, snap(30, w.view))
	for i := range 10 {
		w = learns(t, m, w, decide(w.next, view.Command{Req: uint32(i)}), []view.Command{{Req: uint32(i)}})
		silent(t, m, w, 3)
	}
	silent(t, m, w, 9) // up to the tick 50
	decides(t, m, w, remove(1, 1))
}

// P16.3: a node is heard from each of its addresses, up to the number of nodes; it is told the view only if it has another epoch.
func TestHello(t *testing.T) {
	for nodes := 1; nodes <= api.MaxNodes; nodes++ {
		for node := uint8(1); int(node) <= nodes; node++ {
			d := disk.New()
			acceptor.Make(d, me, first(8))
			m := open(t, d, Config{Self: me, Masters: 3, Nodes: nodes, Patience: patience, Suspect: never, Wait: never})
			w := is{view: first(8)}
			for _, epoch := range []uint32{0, 2, 1 << 16, 1<<24 + 1, math.MaxUint32} {
				on(t, m, hello(node, 1, epoch, 5, true), news(node, w.view))
			}
			for range limit {
				m.Tick()
			}
			on(t, m, promise(3, 0))
			w.leads = true
			silent(t, m, w, 2)
			on(t, m, hello(node, 1, 1, 5, false))
			decides(t, m, w, grant(node, 1, 1, 5), lease(grant(node, 1, 1, 5)))
		}
	}
}

// P16.3: a Hello has no effect if it does not come from a node of the store, or is not addressed to the master.
func TestHelloOfOthers(t *testing.T) {
	for _, nodes := range []int{1, 3, api.MaxNodes} {
		for n := range 256 {
			d := disk.New()
			acceptor.Make(d, me, first(8))
			m := open(t, d, Config{Self: me, Masters: 3, Nodes: nodes, Patience: patience, Suspect: never, Wait: never})
			f := hello(1, 1, 1, 5, true)
			for _, epoch := range []uint32{9, 1} {
				f.Epoch = epoch
				if f.From = uint8(n); n <= 16 || n > 16+nodes {
					on(t, m, f)
				}
				if f.From, f.To = 17, uint8(n); n != me {
					on(t, m, f)
				}
				f.To = me
			}
			for range limit {
				m.Tick()
			}
			on(t, m, promise(1, 0))
			silent(t, m, is{view: first(8), leads: true}, 2)
		}
	}
}

// P16.3: all that a Hello says is in the word: a node that is complete is settled, one in a new life is removed and added, and then each gets its lease.
func TestWords(t *testing.T) {
	m, w := leading(t, never, 20)
	on(t, m, hello(3, 200, 0, 0, false), news(3, w.view))
	silent(t, m, w, 8)
	w = decides(t, m, w, remove(3, 1))
	w = decides(t, m, w, add(3, 200))
	on(t, m, hello(3, 200, 2, 1, true), news(3, w.view))
	silent(t, m, w, 1)
	on(t, m, hello(3, 200, 3, 1, false))
	w = decides(t, m, w, grant(3, 200, 3, 1), lease(grant(3, 200, 3, 1)))
	on(t, m, hello(3, 200, 3, 1, true))
	w = decides(t, m, w, settle(3, 200))
	silent(t, m, w, 1)
	if x, ok := w.view.Find(3); !ok || !x.Ready || w.view.Epoch != 3 {
		t.Errorf("%v", w.view)
	}
	on(t, m, hello(3, 200, 3, math.MaxUint32, true))
	decides(t, m, w, grant(3, 200, 3, math.MaxUint32), lease(grant(3, 200, 3, math.MaxUint32)))
}

// P16.3: a node whose word does not count is told the view all the same.
func TestHelloThatDoesNotCount(t *testing.T) {
	m, w := leading(t, never, never)
	on(t, m, hello(2, 4, 1, 5, true))
	for _, life := range []uint8{0, 1, 3, 201, 255} {
		on(t, m, hello(2, life, 1, 7, true))
		on(t, m, hello(2, life, 7, 7, true), news(2, w.view))
	}
	silent(t, m, w, 3)
}

// P16.3: the view that a node is told is that of the master now, and a list of its own.
func TestNews(t *testing.T) {
	m, w := made(t, never, never)
	l := []view.Command{add(7, 3), settle(7, 3), remove(1, 1), {}, grant(2, 1, 3, 9)}
	for i, c := range l {
		var want []frame.Frame
		if c.Kind == view.Grant {
			want = append(want, lease(c))
		}
		w = learns(t, m, w, decide(uint32(i), c), []view.Command{c}, want...)
		on(t, m, hello(1, 1, w.view.Epoch, 9, true))
		out := m.On(hello(1, 1, w.view.Epoch-1, 9, true))
		does(t, "On", out, nil, news(1, w.view))
		v := out.Frames[0].View
		_ = append(v.Members, view.Member{Node: 99})
		for i := range v.Members {
			v.Members[i] = view.Member{Node: 77}
		}
		has(t, m, w)
	}
}

// P16.3: frames of nodes that are no Hellos have no effect, nor have Hellos and the like of masters.
func TestOtherFrames(t *testing.T) {
	for kind := range 256 {
		m, w := leading(t, never, never)
		f := frame.Frame{
			Head: head(uint8(kind), 17, me), Epoch: 1, Life: 1, Req: 3, Flag: true, Ballot: mine, Slot: 20, View: first(5),
			Command: grant(1, 1, 1, 1), Entries: []frame.Entry{{Slot: 20, Command: grant(1, 1, 1, 1)}},
		}
		if kind != frame.Hello {
			on(t, m, f)
		}
		f.From = 18
		f.Epoch = 7
		if kind != frame.Hello {
			on(t, m, f)
		}
		if kind < frame.Prepare || kind > frame.Snap {
			f.From = 1
			on(t, m, f)
			f.From = 3
			on(t, m, f)
		}
		silent(t, m, w, 2)
	}
}

// P16.3: other frames are the engine's: what it sends and applies is what the master does.
func TestFramesOfTheEngine(t *testing.T) {
	m, w := made(t, never, never)
	b := mark.Ballot{Mark: mark.Mark{N: 4, By: 1}}
	c := add(4, 1)
	on(t, m, frame.Frame{Head: head(frame.Prepare, 1, me), Ballot: b}, frame.Frame{Head: head(frame.Promise, me, 1), Ballot: b})
	on(t, m, frame.Frame{Head: head(frame.Accept, 1, me), Ballot: b, Slot: 2, Command: c}, frame.Frame{Head: head(frame.Accepted, me, 1), Ballot: b, Slot: 2})
	on(t, m, frame.Frame{Head: head(frame.Accept, 3, me), Ballot: mine, Slot: 2, Command: c}, frame.Frame{Head: head(frame.Refuse, me, 3), Ballot: b})
	w = learns(t, m, w, decide(0, c), []view.Command{c})
	on(t, m, frame.Frame{Head: head(frame.Have, 3, me)}, frame.Frame{Head: head(frame.Decide, me, 3), Command: c})
	w.next, w.view = 40, first(2)
	w = learns(t, m, w, snap(40, first(2)), nil)
	on(t, m, frame.Frame{Head: head(frame.Have, 3, me)}, frame.Frame{Head: head(frame.Snap, me, 3), Slot: 40, View: w.view})
}
