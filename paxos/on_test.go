package paxos

import (
	"math/rand"
	"slices"
	"testing"

	"talaria/api"
	"talaria/frame"
	"talaria/learner"
	"talaria/mark"
	"talaria/view"
)

// states are engines of master 2 in all phases, each made anew.
func states() map[string]func(t *testing.T) *Engine {
	return map[string]func(t *testing.T) *Engine{
		"new": func(t *testing.T) *Engine {
			_, x, _ := made(t)
			return x
		},
		"ahead": func(t *testing.T) *Engine {
			_, x, _ := ahead(t, commands(13)...)
			on(t, x, decide(1, me, 15, command(15)))
			x.Tick()
			on(t, x, accept(1, me, ballot(4, 1), 14, command(3)), accepted(me, 1, ballot(4, 1), 14))
			return x
		},
		"asking": func(t *testing.T) *Engine {
			_, x, _ := asking(t)
			x.Tick()
			return x
		},
		"leading": func(t *testing.T) *Engine {
			_, x, _ := leading(t, commands(3)...)
			return x
		},
	}
}

// probe returns what an engine tells, sends and applies in a long sequence of calls that shows all that it has.
func probe(x *Engine) []Out {
	var l []Out
	tell := func(out Out) {
		next, v := x.Next()
		own := learner.Applied{Slot: next, View: v, Holds: x.Leads(), Command: view.Command{Req: uint32(x.Busy())}} // what it tells, as if it had applied it
		l = append(l, out, Out{Applied: []learner.Applied{own}})
	}
	next, _ := x.Next()
	tell(Out{})
	for range 3 * limit {
		tell(x.Tick())
	}
	for slot := range next {
		tell(x.On(have(1, me, slot, false)))
	}
	tell(x.On(promise(3, me, ballot(2, me), 0)))
	for slot := range uint32(20) {
		tell(x.On(prepare(3, me, ballot(last, 9), slot)))
	}
	for slot := range next + 16 {
		tell(x.On(decide(3, me, slot, command(int(slot)))))
	}
	return l
}

// unaffected checks that in all states, a call sends and applies what is wanted, and has no other effect.
func unaffected(t *testing.T, what string, act func(x *Engine) Out, frames ...frame.Frame) {
	t.Helper()
	for state, get := range states() {
		x := get(t)
		does(t, what+" while "+state, act(x), nil, frames...)
		if !slices.EqualFunc(probe(x), probe(get(t)), equal) {
			t.Errorf("%s while %s has an effect", what, state)
		}
	}
}

// all are frames of the kinds that engines know, none of which lacks an effect in all states.
func all(from, to uint8) []frame.Frame {
	return []frame.Frame{
		prepare(from, to, ballot(9, 1), 20),
		promise(from, to, mine, 0),
		refuse(from, to, ballot(9, 1)),
		accept(from, to, ballot(9, 1), 14, command(1)),
		accepted(from, to, mine, 0),
		decide(from, to, 0, command(0)),
		decide(from, to, 13, command(13)),
		have(from, to, 0, true),
		snap(from, to, 20, some(3)),
	}
}

// P14.3: each kind has an effect in some state, or else the following tests would not tell anything.
func TestOnHasEffects(t *testing.T) {
	for _, f := range all(1, me) {
		effects := 0
		for _, get := range states() {
			x := get(t)
			out := x.On(f)
			if !equal(out, Out{}) || !slices.EqualFunc(probe(x), probe(get(t)), equal) {
				effects++
			}
		}
		if effects == 0 {
			t.Errorf("%v has no effect in any state", f)
		}
	}
}

// P14.3: frames that are not addressed to the engine, or not from one of the others, have no effect.
func TestOnOfOtherFrames(t *testing.T) {
	for _, to := range []uint8{0, 1, 3, 4, 16 + me, 128 + me, 255} {
		for _, f := range all(1, to) {
			unaffected(t, "a frame to another one", func(x *Engine) Out { return x.On(f) })
		}
	}
	for _, from := range []uint8{0, me, 4, 5, 17, 129, 255} {
		for _, f := range all(from, me) {
			unaffected(t, "a frame that is not from one of the others", func(x *Engine) Out { return x.On(f) })
		}
	}
}

// P14.3: frames of other kinds have no effect.
func TestOnOfOtherKinds(t *testing.T) {
	for _, kind := range []uint8{0, frame.Inv, frame.Ack, frame.Val, frame.Need, frame.Give, frame.Hello, frame.News, frame.Lease, frame.Snap + 1, 18, 100, 255} {
		f := frame.Frame{
			Head: head(kind, 1, me), Epoch: 1, Life: 1, Req: 3, Flag: true, Ballot: ballot(9, 1), Slot: 20,
			Command: command(1), View: some(3), Entries: []frame.Entry{entry(20, mine, 1)},
		}
		unaffected(t, "a frame of another kind", func(x *Engine) Out { return x.On(f) })
	}
}

// P14.3: a Prepare of a ballot that is not below the promised one is promised, with what was accepted from its slot on.
func TestPrepare(t *testing.T) {
	_, x, w := made(t)
	zero := mark.Ballot{}
	on(t, x, prepare(1, me, zero, 0), promise(me, 1, zero, 0))
	b := ballot(3, 1)
	on(t, x, prepare(1, me, b, 5), promise(me, 1, b, 5))
	for _, slot := range []uint32{7, 0, 15, 2} {
		on(t, x, accept(1, me, b, slot, command(int(slot))), accepted(me, 1, b, slot))
	}
	for _, b := range []mark.Ballot{b, ballot(3, 3), ballot(4, 0), ballot(last, 255), ballot(last, 255)} {
		l := []frame.Entry{entry(0, ballot(3, 1), 0), entry(2, ballot(3, 1), 2), entry(7, ballot(3, 1), 7), entry(15, ballot(3, 1), 15)}
		for i, slot := range []uint32{0, 2, 7, 15, 16} {
			on(t, x, prepare(3, me, b, slot), promise(me, 3, b, slot, l[i:]...))
		}
		on(t, x, prepare(1, me, b, 1), promise(me, 1, b, 1, l[1:]...))
		on(t, x, prepare(1, me, b, last), promise(me, 1, b, last))
	}
	has(t, x, w)
}

// P14.3: a Prepare of a ballot below the promised one is refused, and has no other effect.
func TestPrepareOfALowerBallot(t *testing.T) {
	_, x, _ := made(t)
	on(t, x, prepare(1, me, ballot(3, 2), 0), promise(me, 1, ballot(3, 2), 0))
	for _, b := range []mark.Ballot{{}, ballot(0, 9), ballot(2, 255), ballot(3, 1)} {
		for _, slot := range []uint32{0, 3, last} {
			on(t, x, prepare(3, me, b, slot), refuse(me, 3, ballot(3, 2)))
		}
	}
	on(t, x, prepare(3, me, ballot(3, 2), 0), promise(me, 3, ballot(3, 2), 0))
	leading := states()["leading"]
	for _, b := range []mark.Ballot{{}, ballot(1, 1)} {
		x := leading(t)
		on(t, x, prepare(3, me, b, 0), refuse(me, 3, mine))
		if !slices.EqualFunc(probe(x), probe(leading(t)), equal) {
			t.Errorf("a Prepare of %v has an effect", b)
		}
	}
}

// P14.3: a Prepare of a slot that is cut is answered by a Snap of what was applied, whatever its ballot.
func TestPrepareOfACutSlot(t *testing.T) {
	get := func() (*Engine, is) {
		_, x, w := ahead(t, commands(api.Kept+3)...)
		on(t, x, prepare(1, me, ballot(3, 1), 20), promise(me, 1, ballot(3, 1), 20))
		waits(t, x, 3)
		return x, w
	}
	for _, slot := range []uint32{0, 1, api.Kept - 1} {
		for _, b := range []mark.Ballot{{}, ballot(3, 0), ballot(3, 1), ballot(9, 9)} {
			x, w := get()
			on(t, x, prepare(3, me, b, slot), snap(me, 3, w.next, w.view))
			y, _ := get()
			if !slices.EqualFunc(probe(x), probe(y), equal) {
				t.Errorf("a Prepare of %v in %d has an effect", b, slot)
			}
		}
	}
	x, _ := get()
	on(t, x, prepare(3, me, ballot(3, 0), api.Kept), refuse(me, 3, ballot(3, 1)))
	on(t, x, prepare(3, me, ballot(3, 3), api.Kept), promise(me, 3, ballot(3, 3), api.Kept))
}

// P14.3: an engine whose disk fails answers no Prepare of a higher ballot, and goes on.
func TestPrepareWithADiskThatFails(t *testing.T) {
	d, x, w := leading(t, command(1))
	d.Crash(0)
	on(t, x, prepare(1, me, ballot(2, 1), 0))
	has(t, x, w)
	on(t, x, prepare(1, me, ballot(1, 1), 0), refuse(me, 1, mine))
	on(t, x, prepare(1, me, mine, 0), promise(me, 1, mine, 0, entry(0, mine, 1)))
	has(t, x, w)
	d, x, _ = made(t)
	waits(t, x, limit-1)
	d.Crash(0)
	on(t, x, prepare(1, me, ballot(2, 1), 0))
	d.Start()
	stands(t, open(t, d, me, 3, patience, is{view: first(3)}), limit, mine)
}

// quiets checks whether a frame makes the quiet time 0, which was one below the limit.
func quiets(t *testing.T, what string, x *Engine, f frame.Frame, want bool, b mark.Ballot) {
	t.Helper()
	waits(t, x, limit-1)
	x.On(f)
	if want {
		stands(t, x, limit, b)
	} else {
		stands(t, x, 1, b)
	}
	if t.Failed() {
		t.Fatalf("quiet time behind %s", what)
	}
}

// P14.3: what makes the quiet time 0: a Prepare that is promised, an Accept that is accepted, and a Have of a leader, of whatever slot.
func TestQuietTime(t *testing.T) {
	get := func(t *testing.T) *Engine {
		_, x, _ := ahead(t, commands(api.Kept+2)...)
		on(t, x, prepare(1, me, ballot(4, 1), 9), promise(me, 1, ballot(4, 1), 9))
		return x
	}
	next, above := uint32(api.Kept+2), ballot(5, me)
	quiets(t, "a promised Prepare", get(t), prepare(1, me, ballot(4, 1), next), true, above)
	quiets(t, "a promised Prepare of a higher ballot", get(t), prepare(1, me, ballot(5, 3), next), true, ballot(6, me))
	quiets(t, "a refused Prepare", get(t), prepare(1, me, ballot(4, 0), next), false, above)
	quiets(t, "a Prepare of a cut slot", get(t), prepare(1, me, ballot(9, 1), 3), false, above)
	quiets(t, "an accepted Accept", get(t), accept(1, me, ballot(4, 1), next, command(1)), true, above)
	quiets(t, "an accepted Accept of a higher ballot", get(t), accept(1, me, ballot(7, 1), next, command(1)), true, ballot(8, me))
	quiets(t, "a refused Accept", get(t), accept(1, me, ballot(3, 9), next, command(1)), false, above)
	quiets(t, "an Accept of a cut slot", get(t), accept(1, me, ballot(9, 1), 3, command(1)), false, above)
	quiets(t, "an Accept above the window", get(t), accept(1, me, ballot(9, 1), api.Kept+api.MaxEntries, command(1)), false, above)
	for _, slot := range []uint32{0, 1, 2, next - 1, next, next + 1, last} {
		quiets(t, "a Have of a leader", get(t), have(3, me, slot, true), true, above)
		quiets(t, "a Have", get(t), have(3, me, slot, false), false, above)
	}
	quiets(t, "a Refuse of a lower ballot", get(t), refuse(3, me, ballot(3, 1)), false, above)
	quiets(t, "a Refuse of a higher ballot", get(t), refuse(3, me, ballot(8, 1)), false, ballot(9, me))
	quiets(t, "a Decide", get(t), decide(1, me, next+1, command(1)), false, above)
	quiets(t, "a Decide of the past", get(t), decide(1, me, 0, command(0)), false, above)
	quiets(t, "a Snap that is behind", get(t), snap(1, me, 3, some(3)), false, above)
	quiets(t, "a Promise", get(t), promise(1, me, ballot(4, me), next), false, above)
	quiets(t, "an Accepted", get(t), accepted(1, me, ballot(4, me), next), false, above)
	x := get(t)
	waits(t, x, limit-1)
	on(t, x, snap(1, me, 100, some(3)))
	stands(t, x, 1, above)
	x = get(t)
	waits(t, x, limit-1)
	x.On(decide(1, me, next, command(1)))
	stands(t, x, 1, above)
}

// P14.3: a Promise of its ballot makes the engine lead if more than half of the masters have promised, and then it submits a proposal for each slot up to the last entry.
func TestPromise(t *testing.T) {
	for masters := 2; masters <= api.MaxMasters; masters++ {
		for self := uint8(1); int(self) <= masters; self++ {
			w := is{view: first(3)}
			d := given(t, self)
			x := open(t, d, self, masters, 1, w)
			on(t, x, promise(self%2+1, self, ballot(1, self), 0)) // it does not ask yet
			for range 1 + 3*int(self) {
				x.Tick()
			}
			var others []uint8
			for n := masters; n > 0; n-- {
				if uint8(n) != self {
					others = append([]uint8{uint8(n)}, others...)
				}
			}
			b := ballot(1, self)
			need := masters / 2
			for i := range need - 1 {
				for range 2 {
					on(t, x, promise(others[i], self, b, 0, entry(uint32(i), ballot(0, 9), i)))
				}
				has(t, x, w)
			}
			on(t, x, promise(others[need-1], self, ballot(1, self+1), 0))
			on(t, x, promise(others[need-1], self, ballot(0, self), 0))
			has(t, x, w)
			l := append(commands(need-1), view.Command{}, command(8))
			var want []frame.Frame
			for i, c := range l {
				for _, to := range others {
					want = append(want, accept(self, to, b, uint32(i), c))
				}
			}
			on(t, x, promise(others[need-1], self, b, 0, entry(uint32(need), ballot(0, 9), 8)), want...)
			w.leads, w.busy = true, len(l)
			has(t, x, w)
			for _, from := range others {
				on(t, x, promise(from, self, b, 0, entry(9, ballot(0, 9), 9)))
			}
			has(t, x, w)
			var entries []frame.Entry
			for i, c := range l {
				entries = append(entries, frame.Entry{Slot: uint32(i), Ballot: b, Command: c})
			}
			on(t, x, prepare(others[0], self, b, 0), promise(self, others[0], b, 0, entries...)) // which it has accepted itself
		}
	}
}

// P14.3: of what is promised, the entry with the highest ballot is proposed, also if it is the engine's own one.
func TestPromiseOfHigherEntries(t *testing.T) {
	for own := range uint32(3) {
		_, x, w := made(t)
		b := ballot(own*2, 1)
		on(t, x, accept(1, me, b, 1, command(1)), accepted(me, 1, b, 1))
		b = ballot(own*2+1, me)
		stands(t, x, limit, b)
		want := command(2)
		if own == 2 {
			want = command(1)
		}
		on(t, x, promise(3, me, b, 0, entry(1, ballot(3, 3), 2)), accepts(b, 0, view.Command{}, want)...)
		w.leads, w.busy = true, 2
		has(t, x, w)
	}
}

// P14.3: behind a Refuse, the engine stands above its ballot; it steps down behind a higher one.
func TestRefuse(t *testing.T) {
	for _, state := range []string{"asking", "leading"} {
		for _, b := range []mark.Ballot{ballot(1, 3), ballot(2, 0), ballot(5, 1), ballot(last-1, 255)} {
			x := states()[state](t)
			w := is{view: first(3)}
			on(t, x, refuse(3, me, b))
			has(t, x, w)
			on(t, x, promise(1, me, mine, 0))
			on(t, x, accepted(1, me, mine, 0))
			has(t, x, w)
			on(t, x, refuse(1, me, ballot(1, 0)))
			ticks := limit
			if state == "asking" {
				ticks--
			}
			stands(t, x, ticks, ballot(b.N+1, me))
		}
		for _, b := range []mark.Ballot{{}, ballot(0, 9), ballot(1, 1), mine} {
			x := states()[state](t)
			on(t, x, refuse(3, me, b))
			if !slices.EqualFunc(probe(x), probe(states()[state](t)), equal) {
				t.Errorf("a Refuse of %v while %s has an effect", b, state)
			}
		}
	}
	_, x, _ := made(t)
	on(t, x, refuse(3, me, ballot(6, 1)))
	on(t, x, refuse(3, me, ballot(6, 3)))
	on(t, x, refuse(1, me, ballot(4, 3)))
	stands(t, x, limit, ballot(7, me))
	does(t, "Tick", x.Tick(), nil, slices.Concat(haves(0, false), prepares(ballot(7, me), 0))...)
}

// now returns what an engine has.
func now(x *Engine) is {
	next, v := x.Next()
	return is{next: next, view: v, leads: x.Leads(), busy: x.Busy()}
}

// P14.3: an engine steps down behind a higher ballot that it promises or accepts, and only behind a higher one.
func TestStepsDown(t *testing.T) {
	for _, state := range []string{"asking", "leading"} {
		for _, b := range []mark.Ballot{mine, ballot(1, 3), ballot(2, 1)} {
			higher := b != mine
			for _, f := range []frame.Frame{prepare(3, me, b, 9), accept(3, me, b, 9, command(1))} {
				x := states()[state](t)
				w := now(x)
				x.On(f)
				if higher {
					w.leads, w.busy = false, 0
				}
				has(t, x, w)
				on(t, x, prepare(3, me, ballot(1, 1), 0), refuse(me, 3, b))
				if higher {
					stands(t, x, limit, ballot(b.N+1, me))
					continue
				}
				if out := x.Tick(); len(out.Frames) < 4 {
					t.Errorf("Tick while %s: %v", state, out)
				}
			}
		}
	}
}

// P14.3: an Accept of a ballot that is not below the promised one is accepted; the last one in a slot counts.
func TestAccept(t *testing.T) {
	_, x, w := made(t)
	zero := mark.Ballot{}
	on(t, x, accept(1, me, zero, 0, command(1)), accepted(me, 1, zero, 0))
	on(t, x, accept(3, me, ballot(2, 3), 15, command(2)), accepted(me, 3, ballot(2, 3), 15))
	on(t, x, accept(3, me, ballot(2, 3), 15, command(2)), accepted(me, 3, ballot(2, 3), 15))
	on(t, x, accept(1, me, ballot(3, 1), 0, command(3)), accepted(me, 1, ballot(3, 1), 0))
	on(t, x, accept(1, me, ballot(4, 1), 7, view.Command{}), accepted(me, 1, ballot(4, 1), 7))
	on(t, x, prepare(1, me, ballot(4, 1), 0), promise(me, 1, ballot(4, 1), 0, entry(0, ballot(3, 1), 3), frame.Entry{Slot: 7, Ballot: ballot(4, 1)}, entry(15, ballot(2, 3), 2)))
	for _, b := range []mark.Ballot{{}, ballot(3, 9), ballot(4, 0)} {
		for _, slot := range []uint32{0, 1, 15} {
			on(t, x, accept(3, me, b, slot, command(5)), refuse(me, 3, ballot(4, 1)))
		}
	}
	on(t, x, prepare(1, me, ballot(4, 1), 0), promise(me, 1, ballot(4, 1), 0, entry(0, ballot(3, 1), 3), frame.Entry{Slot: 7, Ballot: ballot(4, 1)}, entry(15, ballot(2, 3), 2)))
	has(t, x, w)
}

// P14.3: an Accept of a slot that is cut is answered by a Snap, one of a slot above the window by a Have without a flag, both whatever the ballot; they have no other effect.
func TestAcceptOutsideTheWindow(t *testing.T) {
	for _, n := range []int{0, 3, api.Kept, api.Kept + 5, 2*api.Kept + 1} {
		get := func() (*Engine, is) {
			_, x, w := ahead(t, commands(n)...)
			on(t, x, prepare(1, me, ballot(3, 1), 30), promise(me, 1, ballot(3, 1), 30))
			x.Tick()
			return x, w
		}
		low := uint32(n / api.Kept * api.Kept)
		for _, slot := range []uint32{0, low / 2, low - 1, low + api.MaxEntries, low + api.MaxEntries + 1, 1 << 31, last} {
			for _, b := range []mark.Ballot{{}, ballot(3, 0), ballot(3, 1), ballot(9, 9)} {
				x, w := get()
				switch {
				case slot < low:
					on(t, x, accept(3, me, b, slot, command(1)), snap(me, 3, w.next, w.view))
				case slot-low >= api.MaxEntries:
					on(t, x, accept(3, me, b, slot, command(1)), have(me, 3, w.next, false))
				default:
					continue
				}
				y, _ := get()
				if !slices.EqualFunc(probe(x), probe(y), equal) {
					t.Errorf("an Accept of %v in %d has an effect", b, slot)
				}
			}
		}
		x, _ := get()
		base(t, x, ballot(3, 2), low)
		on(t, x, accept(3, me, ballot(3, 2), low+api.MaxEntries-1, command(1)), accepted(me, 3, ballot(3, 2), low+api.MaxEntries-1))
	}
	_, x, w := leading(t, command(1))
	on(t, x, accept(1, me, ballot(9, 1), api.MaxEntries, command(1)), have(me, 1, 0, false)) // although it leads
	has(t, x, w)
}

// P14.3: an engine whose disk fails does not answer an Accept, and goes on.
func TestAcceptWithADiskThatFails(t *testing.T) {
	d, x, w := leading(t, command(1))
	d.Crash(0)
	on(t, x, accept(1, me, ballot(2, 1), 0, command(2)))
	has(t, x, w)
	on(t, x, prepare(1, me, mine, 0), promise(me, 1, mine, 0, entry(0, mine, 1)))
}

// P14.3: an Accepted by which more than half of the masters have accepted decides a proposal, once; others don't.
func TestAccepted(t *testing.T) {
	for masters := 2; masters <= api.MaxMasters; masters++ {
		w := is{view: first(3)}
		x := open(t, given(t, 1), 1, masters, 1, w)
		for range 4 {
			x.Tick()
		}
		b := ballot(1, 1)
		for from := uint8(2); int(from) <= masters; from++ {
			x.On(promise(from, 1, b, 0))
		}
		for i := range 3 {
			if _, ok := x.Propose(command(i)); !ok {
				t.Errorf("Propose: false")
			}
		}
		w.leads, w.busy = true, 3
		decided := func(slot uint32, c view.Command) []frame.Frame {
			var l []frame.Frame
			for to := uint8(2); int(to) <= masters; to++ {
				l = append(l, decide(1, to, slot, c))
			}
			return l
		}
		need := masters / 2
		for slot := uint32(2); slot < 3; slot-- { // down to 0
			for i := range need - 1 {
				for range 2 {
					on(t, x, accepted(uint8(i+2), 1, b, slot))
				}
			}
			for _, other := range []mark.Ballot{{}, ballot(1, 0), ballot(1, 2), ballot(2, 1)} {
				on(t, x, accepted(uint8(need+1), 1, other, slot))
			}
			for _, none := range []uint32{3, slot + 256, last} {
				on(t, x, accepted(uint8(need+1), 1, b, none))
			}
			has(t, x, w)
			w.busy--
			f := accepted(uint8(need+1), 1, b, slot)
			if slot > 0 {
				on(t, x, f, decided(slot, command(int(slot)))...)
			} else {
				w = learns(t, x, w, f, commands(3), decided(0, command(0))...)
			}
			has(t, x, w)
			for from := uint8(2); int(from) <= masters; from++ {
				on(t, x, accepted(from, 1, b, slot))
			}
			has(t, x, w)
		}
	}
}

// P14.3: a Decide is learned; what waits is applied in the order of the slots, and another command for a slot that is known has no effect.
func TestDecide(t *testing.T) {
	_, x, w := made(t)
	l := commands(9)
	on(t, x, decide(1, me, 2, l[2]))
	on(t, x, decide(3, me, 1, l[1]))
	on(t, x, decide(3, me, 1, l[4]))
	on(t, x, decide(1, me, 4, l[4]))
	on(t, x, decide(1, me, api.MaxEntries, l[5]))
	on(t, x, decide(1, me, last, l[5]))
	has(t, x, w)
	w = learns(t, x, w, decide(3, me, 0, l[0]), l[:3])
	has(t, x, w)
	on(t, x, decide(3, me, 0, l[0]))
	on(t, x, decide(3, me, 0, l[1]))
	on(t, x, decide(3, me, 2, l[3]))
	has(t, x, w)
	w = learns(t, x, w, decide(3, me, 3, l[3]), l[3:5])
	has(t, x, w)
}

// P14.3: an engine that leads drops the proposals for slots that it has learned, and goes on behind them.
func TestDecideWhileLeading(t *testing.T) {
	_, x, w := leading(t, command(0), command(1), command(2))
	w = learns(t, x, w, decide(3, me, 0, command(0)), []view.Command{command(0)})
	w.busy = 2
	has(t, x, w)
	on(t, x, accepted(3, me, mine, 0))
	on(t, x, decide(3, me, 2, command(2))) // which waits, so that its proposal stays
	has(t, x, w)
	on(t, x, decide(3, me, 4, command(4)))
	proposes(t, x, mine, 3, command(3))
	w.busy = 3
	w = learns(t, x, w, decide(3, me, 1, command(1)), []view.Command{command(1), command(2)})
	w.busy = 1
	has(t, x, w)
	w = learns(t, x, w, decide(3, me, 3, command(3)), []view.Command{command(3), command(4)})
	w.busy = 0
	has(t, x, w)
	proposes(t, x, mine, 5, command(5))
	on(t, x, accepted(1, me, mine, 5+api.MaxEntries))
	w.busy = 1
	has(t, x, w)
	_, x, w = leading(t, command(0))
	on(t, x, decide(3, me, 0+api.MaxEntries, command(0))) // an error of the learner: nothing is learned
	has(t, x, w)
}

// P14.3: what an engine has learned while it asked, it drops from its proposals with the next Decide that the learner takes, not with one that it does not take.
func TestDecideBehindAsking(t *testing.T) {
	_, x, w := made(t)
	b := ballot(0, 1)
	for i := range 3 {
		on(t, x, accept(1, me, b, uint32(i), command(i)), accepted(me, 1, b, uint32(i)))
	}
	stands(t, x, limit, mine)
	for i := range 2 {
		w = learns(t, x, w, decide(1, me, uint32(i), command(i)), []view.Command{command(i)})
	}
	on(t, x, promise(3, me, mine, 0), accepts(mine, 0, commands(3)...)...)
	w.leads, w.busy = true, 3
	has(t, x, w)
	for _, f := range []frame.Frame{decide(1, me, 0, command(7)), decide(1, me, 2+api.MaxEntries, command(7)), decide(1, me, last, command(7))} {
		on(t, x, f)
		has(t, x, w)
	}
	on(t, x, decide(1, me, 0, command(0)))
	w.busy = 1
	has(t, x, w)
}

// P14.3: when Kept commands or more are applied behind the cut, all of them are cut, also if they are applied at once.
func TestDecideCuts(t *testing.T) {
	for n := range 2*api.Kept + 4 {
		_, x, _ := ahead(t, commands(n)...)
		base(t, x, mine, uint32(n/api.Kept*api.Kept))
		if n == 0 || n > api.MaxEntries {
			continue
		}
		_, x, w := made(t)
		for i := n - 1; i > 0; i-- {
			on(t, x, decide(1, me, uint32(i), command(i)))
		}
		w = learns(t, x, w, decide(1, me, 0, command(0)), commands(n))
		has(t, x, w)
		want := uint32(n)
		if n < api.Kept {
			want = 0
		}
		base(t, x, mine, want)
	}
}

// P14.3: an engine whose disk fails does not cut, and learns all the same.
func TestDecideWithADiskThatFails(t *testing.T) {
	d, x, w := ahead(t, commands(api.Kept-1)...)
	on(t, x, prepare(1, me, mine, 0), promise(me, 1, mine, 0))
	d.Crash(0)
	for i := api.Kept - 1; i < 2*api.Kept+2; i++ {
		w = learns(t, x, w, decide(3, me, uint32(i), command(i)), []view.Command{command(i)})
	}
	has(t, x, w)
	on(t, x, prepare(3, me, mine, 0), promise(me, 3, mine, 0))
	d.Start()
	open(t, d, me, 3, patience, is{view: first(3)})
}

// P14.3: a Have is answered by the command of its slot and up to three behind it, if it is kept, and otherwise by a Snap; if it is not behind, by nothing.
func TestHave(t *testing.T) {
	for _, n := range []uint32{0, 1, 2, 3, 4, 5, api.Kept, api.Kept + 1, 2*api.Kept + 3} {
		_, x, w := ahead(t, commands(int(n))...)
		on(t, x, decide(1, me, n+1, command(50))) // which waits, and is not sent
		for _, flag := range []bool{false, true} {
			for slot := range n + 3 {
				var want []frame.Frame
				for i := slot; i < min(n, slot+4); i++ {
					want = append(want, decide(me, 3, i, command(int(i))))
				}
				if slot+api.Kept < n {
					want = []frame.Frame{snap(me, 3, w.next, w.view)}
				}
				on(t, x, have(3, me, slot, flag), want...)
			}
			on(t, x, have(3, me, last, flag))
		}
		has(t, x, w)
	}
	_, x, w := made(t)
	on(t, x, snap(1, me, 9, some(4)))
	w = is{next: 9, view: some(4)}
	w = learns(t, x, w, decide(1, me, 9, command(9)), []view.Command{command(9)})
	on(t, x, have(3, me, 8, false), snap(me, 3, 10, w.view))
	on(t, x, have(1, me, 9, false), decide(me, 1, 9, command(9)))
}

// P14.3: a Have that is ahead has no effect but that of its flag; an engine that leads goes on leading.
func TestHaveThatIsAhead(t *testing.T) {
	for _, slot := range []uint32{13, 14, 100, last} {
		unaffected(t, "a Have that is ahead", func(x *Engine) Out { return x.On(have(1, me, slot, false)) })
	}
	_, x, w := leading(t, command(1))
	on(t, x, have(3, me, 0, true))
	on(t, x, have(3, me, 7, true))
	has(t, x, w)
}

// P14.3: a Snap that is not ahead has no effect.
func TestSnapThatIsBehind(t *testing.T) {
	unaffected(t, "a Snap that is behind", func(x *Engine) Out { return x.On(snap(1, me, 0, some(3))) })
	unaffected(t, "a Snap to 2^32 - 1", func(x *Engine) Out { return x.On(snap(1, me, last, some(3))) })
	for _, slot := range []uint32{1, 5, 12, 13} {
		ahead := states()["ahead"]
		x := ahead(t)
		on(t, x, snap(1, me, slot, some(3)))
		if !slices.EqualFunc(probe(x), probe(ahead(t)), equal) {
			t.Errorf("a Snap to %d has an effect", slot)
		}
	}
}

// P14.3: a Snap that is ahead is learned: nothing below it is proposed, accepted or kept any more, and what waits behind it is applied.
func TestSnap(t *testing.T) {
	for _, slot := range []uint32{1, 2, 3, 5, api.Kept, 20, 1 << 31, last - 4} {
		d, x, w := leading(t, command(0), command(1), command(2), command(3))
		on(t, x, snap(3, me, slot, some(5)))
		w = is{next: slot, view: some(5), leads: true, busy: int(max(0, 4-int64(slot)))}
		has(t, x, w)
		on(t, x, have(1, me, slot-1, false), snap(me, 1, slot, some(5)))
		proposes(t, x, mine, max(slot, 4), command(7))
		if w.busy > 0 {
			continue
		}
		w = learns(t, x, w, accepted(1, me, mine, slot), []view.Command{command(7)}, decisions(slot, command(7))...)
		has(t, x, w)
		base(t, x, ballot(2, 1), slot)
		open(t, d, me, 3, patience, is{next: slot, view: some(5)})
	}
	d, x, _ := made(t)
	for _, i := range []uint32{2, 3, 4, 5, 6, 8} {
		on(t, x, decide(3, me, i, command(int(i))))
	}
	w := is{next: 5, view: some(3)}
	w = learns(t, x, w, snap(1, me, 5, some(3)), []view.Command{command(5), command(6)})
	has(t, x, w)
	on(t, x, have(1, me, 4, false), snap(me, 1, 7, w.view))
	on(t, x, have(1, me, 5, false), decide(me, 1, 5, command(5)), decide(me, 1, 6, command(6)))
	base(t, x, mine, 7) // also what was applied behind the snapshot is cut
	x = open(t, d, me, 3, patience, w)
	learns(t, x, w, decide(3, me, 7, command(1)), []view.Command{command(1)})
}

// P14.3: an engine whose disk fails, or that gets a view with too many members, cuts nothing, and learns the snapshot all the same.
func TestSnapThatCannotBeCut(t *testing.T) {
	d, x, _ := made(t)
	on(t, x, snap(1, me, 5, some(api.MaxNodes+1)))
	has(t, x, is{next: 5, view: some(api.MaxNodes + 1)})
	on(t, x, prepare(1, me, mine, 0), promise(me, 1, mine, 0))
	open(t, d, me, 3, patience, is{view: first(3)})
	d, x, _ = made(t)
	d.Crash(0)
	on(t, x, snap(1, me, 5, some(4)))
	has(t, x, is{next: 5, view: some(4)})
	on(t, x, prepare(1, me, mark.Ballot{}, 0), promise(me, 1, mark.Ballot{}, 0))
	d.Start()
	open(t, d, me, 3, patience, is{view: first(3)})
}

// anything returns a frame with fields of all kinds, near what counts and far from it.
func anything(r *rand.Rand, near uint32) frame.Frame {
	slot := func() uint32 {
		l := []uint32{0, 1, near - 9, near - 1, near, near + 1, near + uint32(r.Intn(20)), near + 16, last - 17, last - 2, last - 1, last}
		return l[r.Intn(len(l))]
	}
	one := func() uint8 { return []uint8{0, 1, 2, 3, 4, 255}[r.Intn(6)] }
	number := func() mark.Ballot {
		if r.Intn(100) == 0 {
			return ballot(last-uint32(r.Intn(2)), one())
		}
		return ballot(uint32(r.Intn(5)), one())
	}
	change := func() view.Command {
		return view.Command{Kind: one(), Node: one(), Life: one(), Epoch: uint32(one()), Req: uint32(one())}
	}
	f := frame.Frame{Head: head(uint8(r.Intn(18)), one(), me), Slot: slot(), Flag: r.Intn(2) > 0, Ballot: number(), Command: change(), View: some(r.Intn(10))}
	for range r.Intn(20) {
		f.Entries = append(f.Entries, frame.Entry{Slot: slot(), Ballot: number(), Command: change()})
	}
	return f
}

// P14.1 to P14.4: whatever an engine is given, it answers; what it sends is from it to one of the others, and what it applies are the commands up to its next slot.
func TestAnyFrames(t *testing.T) {
	for seed := range 300 {
		r := rand.New(rand.NewSource(int64(seed)))
		_, x, _ := made(t)
		for range 300 {
			before, _ := x.Next()
			var out Out
			switch r.Intn(4) {
			case 0:
				out = x.Tick()
			case 1:
				out, _ = x.Propose(command(r.Intn(99)))
			default:
				out = x.On(anything(r, before))
			}
			for _, f := range out.Frames {
				if f.From != me || f.To != 1 && f.To != 3 {
					t.Errorf("sends %v", f)
				}
			}
			next, v := x.Next()
			for i, a := range out.Applied {
				if a.Slot != next-uint32(len(out.Applied)-i) {
					t.Errorf("applied %v, the next slot is %d", out.Applied, next)
				}
			}
			if n := len(out.Applied); next < before || n > 0 && !view.Same(out.Applied[n-1].View, v) {
				t.Errorf("from %d to %d by %v", before, next, out.Applied)
			}
			if t.Failed() {
				t.Fatalf("seed %d", seed)
			}
		}
	}
}

// spoil changes all members of a view, and appends one in its spare room.
func spoil(v view.View) {
	_ = append(v.Members, view.Member{Node: 99})
	for i := range v.Members {
		v.Members[i] = view.Member{Node: 77, Life: 77}
	}
}

// What is given is neither changed nor kept, and what is returned is new.
func TestSharesNothing(t *testing.T) {
	_, x, _ := made(t)
	v := some(4)
	v.Members = append(make([]view.Member, 0, 20), v.Members...)
	x.On(snap(1, me, 9, v))
	if !slices.Equal(v.Members[:5], append(some(4).Members, view.Member{})) {
		t.Errorf("changed: %v", v)
	}
	spoil(v)
	w := is{next: 9, view: some(4)}
	has(t, x, w)
	_, v = x.Next()
	spoil(v)
	has(t, x, w)
	on(t, x, decide(1, me, 10, command(4)))
	want, after := w.apply(command(3), command(4))
	out := x.On(decide(1, me, 9, command(3)))
	does(t, "On", out, want)
	spoil(out.Applied[0].View)
	does(t, "On", Out{Applied: out.Applied[1:]}, want[1:])
	spoil(out.Applied[1].View)
	has(t, x, after)
	out = x.On(accept(1, me, mine, 3, command(1)))
	spoil(out.Frames[0].View)
	has(t, x, after)
	b := ballot(0, 1)
	on(t, x, accept(1, me, b, 11, command(1)), accepted(me, 1, b, 11))
	out = x.On(prepare(1, me, b, 11))
	clear(out.Frames[0].Entries)
	stands(t, x, limit, mine)
	l := []frame.Entry{entry(12, b, 5)}
	f := promise(1, me, mine, 11, l...)
	f.Entries = l
	on(t, x, f, accepts(mine, 11, command(1), command(5))...)
	if l[0] != entry(12, b, 5) {
		t.Errorf("changed: %v", l)
	}
	clear(l)
	does(t, "Tick", x.Tick(), nil, slices.Concat(haves(11, true), accepts(mine, 11, command(1), command(5)))...)
}
