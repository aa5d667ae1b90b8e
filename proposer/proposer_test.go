package proposer

import (
	"math"
	"math/rand"
	"slices"
	"testing"

	"talaria/acceptor"
	"talaria/api"
	"talaria/disk"
	"talaria/frame"
	"talaria/mark"
	"talaria/view"
)

// mine is the ballot of most tests, and others are ballots that differ from it a little or much.
var (
	mine   = ballot(5, 2)
	others = []mark.Ballot{{}, ballot(5, 1), ballot(5, 3), ballot(4, 2), ballot(6, 2), ballot(0, 2), ballot(5, 0), ballot(last, 255)}
)

// is is what a proposer should have.
type is struct {
	phase   int
	ballot  mark.Ballot
	next    uint32
	pending []frame.Entry
}

// ballot returns the ballot of a master with that number.
func ballot(n uint32, by uint8) mark.Ballot { return mark.Ballot{Mark: mark.Mark{N: n, By: by}} }

// command returns a command that differs from those of other numbers, and from a Noop.
func command(n int) view.Command {
	return view.Command{Kind: uint8(n) + 1, Node: uint8(n >> 8), Life: 3, Epoch: 4, Req: uint32(n)}
}

// entry returns an entry with a command of that number.
func entry(slot uint32, b mark.Ballot, n int) frame.Entry {
	return frame.Entry{Slot: slot, Ballot: b, Command: command(n)}
}

// entries returns an entry with the ballot mine for each command, in slots from one on.
func entries(from uint32, l ...view.Command) []frame.Entry {
	var all []frame.Entry
	for i, c := range l {
		all = append(all, frame.Entry{Slot: from + uint32(i), Ballot: mine, Command: c})
	}
	return all
}

// has checks all that a proposer tells.
func has(t *testing.T, p *Proposer, want is) {
	t.Helper()
	if phase, b, next := p.Phase(); phase != want.phase || b != want.ballot || next != want.next {
		t.Errorf("Phase: %d %v %d, want %d %v %d", phase, b, next, want.phase, want.ballot, want.next)
	}
	if l := p.Pending(); !slices.Equal(l, want.pending) {
		t.Errorf("Pending: %v, want %v", l, want.pending)
	}
}

// made returns an idle proposer.
func made(t *testing.T, masters int) *Proposer {
	t.Helper()
	p, e := New(masters)
	if p == nil || e != api.OK {
		t.Fatalf("New(%d): %v %v", masters, p, e)
	}
	has(t, p, is{})
	return p
}

// promises checks what Promise returns.
func promises(t *testing.T, p *Proposer, from uint8, b mark.Ballot, want bool, l ...frame.Entry) {
	t.Helper()
	if got := p.Promise(from, b, l); got != want {
		t.Errorf("Promise of %d, %v: %v, want %v", from, b, got, want)
	}
}

// proposes checks that a command is proposed for a slot.
func proposes(t *testing.T, p *Proposer, c view.Command, want uint32) {
	t.Helper()
	if slot, ok := p.Propose(c); slot != want || !ok {
		t.Errorf("Propose: %d %v, want %d", slot, ok, want)
	}
}

// refuses checks that no command is proposed.
func refuses(t *testing.T, p *Proposer) {
	t.Helper()
	for _, c := range []view.Command{{}, command(9)} {
		if slot, ok := p.Propose(c); slot != 0 || ok {
			t.Errorf("Propose: %d %v, want none", slot, ok)
		}
	}
}

// decides checks that a command is decided by an Accepted.
func decides(t *testing.T, p *Proposer, from uint8, b mark.Ballot, slot uint32, want view.Command) {
	t.Helper()
	if c, ok := p.Accepted(from, b, slot); c != want || !ok {
		t.Errorf("Accepted by %d in %d: %v %v, want %v", from, slot, c, ok, want)
	}
}

// waits checks that no command is decided by an Accepted.
func waits(t *testing.T, p *Proposer, from uint8, b mark.Ballot, slot uint32) {
	t.Helper()
	if c, ok := p.Accepted(from, b, slot); ok || c != (view.Command{}) {
		t.Errorf("Accepted by %d, %v in %d: %v %v, want none", from, b, slot, c, ok)
	}
}

// strangers are numbers of no master, if there are so many.
func strangers(masters int) []uint8 {
	return []uint8{0, uint8(masters) + 1, uint8(masters) + 2, 16, 17, 128, 255}
}

// asking returns a proposer that asks.
func asking(t *testing.T, masters int, b mark.Ballot, from uint32) *Proposer {
	t.Helper()
	p := made(t, masters)
	p.Start(b, from)
	has(t, p, is{phase: Asking, ballot: b, next: from})
	return p
}

// leading returns a proposer among three that leads with the ballot mine, and has a proposal of each command.
func leading(t *testing.T, from uint32, l ...view.Command) *Proposer {
	t.Helper()
	p := asking(t, 3, mine, from)
	promises(t, p, 3, mine, false)
	promises(t, p, 1, mine, true)
	for i, c := range l {
		proposes(t, p, c, from+uint32(i))
	}
	has(t, p, is{Leading, mine, from + uint32(len(l)), entries(from, l...)})
	return p
}

// phases returns proposers among three in each phase, with and without promises and proposals.
func phases(t *testing.T) []*Proposer {
	t.Helper()
	once := asking(t, 3, mine, 7)
	promises(t, once, 1, mine, false, entry(9, ballot(1, 1), 1))
	stopped := leading(t, 7, command(1))
	stopped.Stop()
	return []*Proposer{made(t, 3), stopped, asking(t, 3, mine, 7), once, leading(t, 7), leading(t, 7, command(1), command(2))}
}

// P12.1: the phases have the numbers of the chapter.
func TestConstants(t *testing.T) {
	if Idle != 0 || Asking != 1 || Leading != 2 {
		t.Errorf("%d %d %d", Idle, Asking, Leading)
	}
}

// P12.2, P12.3: the example of the chapter.
func TestExample(t *testing.T) {
	p := asking(t, 3, mine, 0)
	promises(t, p, 1, mine, false)
	promises(t, p, 2, mine, true)
	proposes(t, p, command(1), 0)
	waits(t, p, 1, mine, 0)
	decides(t, p, 2, mine, 0, command(1))
}

// P12.1: New refuses less than 1 and more than MaxMasters masters.
func TestNew(t *testing.T) {
	for masters := 1; masters <= api.MaxMasters; masters++ {
		made(t, masters)
	}
	for _, masters := range []int{math.MinInt, math.MinInt32, -256, -5, -1, 0, api.MaxMasters + 1, 255, 256, 257, 1<<32 + 1, math.MaxInt} {
		if p, e := New(masters); p != nil || e != api.ErrArg {
			t.Errorf("New(%d): %v %v, want ErrArg", masters, p, e)
		}
	}
}

// P12.1: Start asks for the ballot and the slots, without any promises, whatever the proposer did before.
func TestStart(t *testing.T) {
	for _, b := range append(slices.Clone(others), mine) {
		for _, from := range []uint32{0, 1, 7, 1 << 31, last - 1, last} {
			for _, p := range phases(t) {
				p.Start(b, from)
				has(t, p, is{phase: Asking, ballot: b, next: from})
				refuses(t, p)
				waits(t, p, 1, b, 7)
				promises(t, p, 1, b, false) // also if master 1 had promised before
				has(t, p, is{phase: Asking, ballot: b, next: from})
				promises(t, p, 2, b, true) // and what was accepted before is forgotten
				has(t, p, is{phase: Leading, ballot: b, next: from})
			}
		}
	}
}

// P12.1: Stop makes a proposer idle, in which nothing but Start has an effect.
func TestStop(t *testing.T) {
	for _, p := range phases(t) {
		p.Stop()
		idle(t, p)
		p.Stop()
		idle(t, p)
		p.Start(mine, 3)
		promises(t, p, 1, mine, false)
		p.Stop()
		idle(t, p)
		p.Start(mine, 3)
		promises(t, p, 2, mine, false)
		promises(t, p, 3, mine, true)
		has(t, p, is{phase: Leading, ballot: mine, next: 3})
	}
}

// idle checks that a proposer is idle, and remains so.
func idle(t *testing.T, p *Proposer) {
	t.Helper()
	for _, b := range []mark.Ballot{{}, mine} {
		for from := uint8(0); from <= 6; from++ {
			promises(t, p, from, b, false, entry(0, mine, 1))
			waits(t, p, from, b, 0)
			waits(t, p, from, b, 7)
		}
	}
	refuses(t, p)
	p.Learn(9)
	has(t, p, is{})
}

// quorums calls f for each order of all masters, of each number of them, with the number of those that are more than half.
func quorums(f func(masters, majority int, order []uint8)) {
	for masters, majority := range []int{1: 1, 2: 2, 3: 2, 4: 3, 5: 3} {
		for seed := range 20 {
			var order []uint8
			for _, i := range rand.New(rand.NewSource(int64(seed))).Perm(masters) {
				order = append(order, uint8(i+1))
			}
			if masters > 0 {
				f(masters, majority, order)
			}
		}
	}
}

// P12.2: a proposer leads as soon as more than half of the masters have promised, not before.
func TestMajorityOfPromises(t *testing.T) {
	quorums(func(masters, majority int, order []uint8) {
		p := asking(t, masters, mine, 4)
		for _, from := range order[:majority-1] {
			promises(t, p, from, mine, false)
			has(t, p, is{phase: Asking, ballot: mine, next: 4})
			refuses(t, p)
		}
		promises(t, p, order[majority-1], mine, true)
		has(t, p, is{phase: Leading, ballot: mine, next: 4})
		for _, from := range order {
			promises(t, p, from, mine, false, entry(6, mine, 1))
		}
		has(t, p, is{phase: Leading, ballot: mine, next: 4})
	})
}

// P12.2: a promise counts once for each master, only from a master, and only of the ballot; the entries of one that does not count don't either.
func TestPromisesThatDoNotCount(t *testing.T) {
	for masters := 2; masters <= api.MaxMasters; masters++ {
		p := asking(t, masters, mine, 4)
		wrong := entry(5, ballot(9, 9), 99)
		bad := func() {
			for _, from := range strangers(masters) {
				promises(t, p, from, mine, false, wrong)
			}
			for _, b := range others {
				for from := range uint8(masters + 2) {
					promises(t, p, from, b, false, wrong)
				}
			}
		}
		bad()
		for from := 1; from <= masters/2; from++ {
			promises(t, p, uint8(from), mine, false, entry(5, ballot(1, 1), 1))
			for again := 1; again <= from; again++ {
				promises(t, p, uint8(again), mine, false, wrong)
			}
			bad()
			has(t, p, is{phase: Asking, ballot: mine, next: 4})
		}
		promises(t, p, uint8(masters), mine, true)
		want := is{Leading, mine, 6, entries(4, view.Command{}, command(1))}
		has(t, p, want)
		bad()
		for from := 1; from <= masters; from++ {
			promises(t, p, uint8(from), mine, false, wrong)
		}
		has(t, p, want)
	}
}

// P12.2: in slots with entries their commands are proposed, in those between a Noop; those behind are free.
func TestProposalsOfALeader(t *testing.T) {
	for _, from := range []uint32{0, 1, 1000, 1 << 31, last - 20} {
		for top := range uint32(api.MaxEntries) {
			p := asking(t, 1, mine, from)
			promises(t, p, 1, mine, true, entry(from+top, ballot(1, 1), 7))
			has(t, p, is{Leading, mine, from + top + 1, entries(from, append(make([]view.Command, top), command(7))...)})
		}
	}
	p := asking(t, 3, mine, 10)
	promises(t, p, 2, mine, false, entry(16, ballot(2, 1), 6), entry(11, ballot(1, 1), 1))
	promises(t, p, 3, mine, true, entry(13, ballot(1, 1), 3), entry(10, ballot(1, 1), 0))
	has(t, p, is{Leading, mine, 17, entries(10, command(0), command(1), view.Command{}, command(3), view.Command{}, view.Command{}, command(6))})
	proposes(t, p, command(8), 17)
}

// P12.2: entries below the slot that is asked for, and MaxEntries or more above it, are ignored.
func TestEntriesThatAreIgnored(t *testing.T) {
	for _, from := range []uint32{0, 1, 5, api.MaxEntries, 1000, last - 2*api.MaxEntries} {
		for _, slot := range []uint32{from - 1, from - 2, from - api.MaxEntries, from + api.MaxEntries, from + api.MaxEntries + 1, from + 256, from + 1<<31, 0, last} {
			if slot == from {
				continue
			}
			p := asking(t, 3, mine, from)
			promises(t, p, 1, mine, false, entry(slot, ballot(8, 8), 1))
			promises(t, p, 2, mine, true, entry(slot, ballot(8, 8), 1))
			has(t, p, is{phase: Leading, ballot: mine, next: from})
			p.Start(mine, from)
			promises(t, p, 1, mine, false, entry(slot, ballot(8, 8), 1), entry(from+1, ballot(1, 1), 2))
			promises(t, p, 2, mine, true, entry(slot, ballot(8, 8), 1))
			has(t, p, is{Leading, mine, from + 2, entries(from, view.Command{}, command(2))})
		}
	}
}

// P12.2: of several entries of a slot the highest ballot counts, whoever sent it and when.
func TestHighestBallot(t *testing.T) {
	l := []mark.Ballot{{}, ballot(0, 9), ballot(1, 0), ballot(1, 3), ballot(2, 1), ballot(2, 2), ballot(256, 1), ballot(last, 1)}
	for i := range l {
		for j := range l {
			low, high := entry(3, l[min(i, j)], 1), entry(3, l[max(i, j)], 2)
			want := is{Leading, mine, 4, entries(3, command(2))}
			if i == j {
				want.pending = entries(3, command(1))
			}
			check := func(first, second []frame.Entry) {
				p := asking(t, 3, mine, 3)
				promises(t, p, 1, mine, false, first...)
				promises(t, p, 3, mine, true, second...)
				has(t, p, want)
			}
			check([]frame.Entry{low}, []frame.Entry{high})
			check([]frame.Entry{low, high}, nil)
			check(nil, []frame.Entry{low, high})
			check([]frame.Entry{low}, []frame.Entry{high, low})
			if i != j {
				check([]frame.Entry{high}, []frame.Entry{low})
				check([]frame.Entry{high, low}, nil)
				check([]frame.Entry{low, high, low}, []frame.Entry{low})
			}
		}
	}
}

// P12.2: of several entries with the highest ballot the first one counts, in one list and in several; their number is not the one of the masters.
func TestFirstOfEqualBallots(t *testing.T) {
	x := func(n int) frame.Entry { return entry(3, ballot(4, 4), n) }
	low := entry(3, ballot(4, 3), 9)
	for _, l := range [][][]frame.Entry{
		{{x(1), x(2)}, {x(2)}, {x(2)}},
		{{low, x(1)}, {low, x(2), x(3)}, {x(3)}},
		{{}, {x(1)}, {x(2), x(2)}},
		{{}, {}, {low, x(1), x(2), x(3), low}},
		{{low}, {x(1)}, {low, x(3)}},
	} {
		p := asking(t, 5, mine, 3)
		promises(t, p, 5, mine, false, l[0]...)
		promises(t, p, 1, mine, false, l[1]...)
		promises(t, p, 2, mine, true, l[2]...)
		has(t, p, is{Leading, mine, 4, entries(3, command(1))})
	}
}

// P12.2: an entry's command is proposed as it is, also a Noop, and with the proposer's ballot.
func TestCommandsOfEntries(t *testing.T) {
	for _, c := range []view.Command{{}, {Kind: 255, Node: 255, Life: 255, Epoch: last, Req: last}, {Req: 1}, {Kind: view.Grant, Node: 1, Life: 1, Epoch: 1, Req: 5}} {
		for _, b := range append(slices.Clone(others), mine) {
			p := asking(t, 1, mine, 3)
			promises(t, p, 1, mine, true, frame.Entry{Slot: 3, Ballot: b, Command: c})
			has(t, p, is{Leading, mine, 4, entries(3, c)})
			decides(t, p, 1, mine, 3, c)
		}
	}
}

// P12.2, P12.3: at the end of all slots, an entry can be proposed in the last one, and nothing wraps around.
func TestLastSlots(t *testing.T) {
	for room := range uint32(api.MaxEntries + 2) {
		from := uint32(last) - room
		for top := range min(room+1, api.MaxEntries) {
			p := asking(t, 1, mine, from)
			promises(t, p, 1, mine, true, entry(from+top, ballot(1, 1), 7))
			want := is{Leading, mine, from + top, entries(from, append(make([]view.Command, top), command(7))...)}
			if want.next < last {
				want.next++
			}
			has(t, p, want)
			for len(want.pending) < api.MaxEntries && want.next < last {
				proposes(t, p, command(1), want.next)
				want.pending = append(want.pending, frame.Entry{Slot: want.next, Ballot: mine, Command: command(1)})
				want.next++
			}
			refuses(t, p)
			has(t, p, want)
			p.Learn(last)
			want.next = last
			want.pending = slices.DeleteFunc(want.pending, func(x frame.Entry) bool { return x.Slot < last })
			refuses(t, p)
			has(t, p, want)
			if len(want.pending) == 1 {
				decides(t, p, 1, mine, last, command(7))
				has(t, p, is{phase: Leading, ballot: mine, next: last})
			}
		}
	}
}

// P12.3: commands are proposed for one slot after another, as long as there are fewer than MaxEntries proposals.
func TestPropose(t *testing.T) {
	for _, from := range []uint32{0, 1, 1000, 1 << 31, last - 2*api.MaxEntries} {
		var l []view.Command
		for n := range api.MaxEntries {
			l = append(l, command(n))
		}
		p := leading(t, from, l...)
		refuses(t, p)
		has(t, p, is{Leading, mine, from + api.MaxEntries, entries(from, l...)})
		waits(t, p, 1, mine, from+3)
		decides(t, p, 3, mine, from+3, l[3])
		proposes(t, p, command(50), from+api.MaxEntries)
		refuses(t, p)
		p.Learn(from + 2)
		proposes(t, p, command(51), from+api.MaxEntries+1)
		proposes(t, p, command(52), from+api.MaxEntries+2)
		refuses(t, p)
		want := entries(from, append(l, command(50), command(51), command(52))...)
		has(t, p, is{Leading, mine, from + api.MaxEntries + 3, slices.Delete(want, 3, 4)[2:]})
	}
}

// P12.2, P12.3: a proposer that begins to lead with MaxEntries proposals has no room, with one less it has.
func TestProposeBehindEntries(t *testing.T) {
	p := asking(t, 1, mine, 5)
	promises(t, p, 1, mine, true, entry(5+api.MaxEntries-1, ballot(1, 1), 1))
	refuses(t, p)
	decides(t, p, 1, mine, 9, view.Command{})
	proposes(t, p, command(2), 5+api.MaxEntries)
	refuses(t, p)
	p = asking(t, 1, mine, 5)
	promises(t, p, 1, mine, true, entry(5+api.MaxEntries-2, ballot(1, 1), 1))
	proposes(t, p, command(2), 5+api.MaxEntries-1)
	refuses(t, p)
}

// P12.3: only a proposer that leads proposes.
func TestProposeOnlyLeading(t *testing.T) {
	refuses(t, made(t, 1))
	p := asking(t, 1, mine, 3)
	refuses(t, p)
	has(t, p, is{phase: Asking, ballot: mine, next: 3})
	promises(t, p, 1, mine, true)
	proposes(t, p, command(1), 3)
	p.Stop()
	refuses(t, p)
	has(t, p, is{})
}

// P12.3: a command is decided as soon as more than half of the masters have accepted it, not before, and once.
func TestMajorityOfAccepted(t *testing.T) {
	quorums(func(masters, majority int, order []uint8) {
		p := asking(t, masters, mine, 4)
		for _, from := range order[:majority] {
			p.Promise(from, mine, nil)
		}
		proposes(t, p, command(1), 4)
		proposes(t, p, command(2), 5)
		both := is{Leading, mine, 6, entries(4, command(1), command(2))}
		for _, from := range order[:majority-1] {
			waits(t, p, from, mine, 5)
			has(t, p, both)
		}
		decides(t, p, order[majority-1], mine, 5, command(2))
		one := is{Leading, mine, 6, both.pending[:1]}
		for _, from := range order {
			waits(t, p, from, mine, 5)
			has(t, p, one)
		}
		for _, from := range order[:majority-1] {
			waits(t, p, from, mine, 4)
		}
		has(t, p, one)
		decides(t, p, order[masters-1], mine, 4, command(1))
		has(t, p, is{phase: Leading, ballot: mine, next: 6})
	})
}

// P12.3: an Accepted counts once for each master, only from a master, only of the ballot, and only for a proposal.
func TestAcceptedThatDoNotCount(t *testing.T) {
	for masters := 2; masters <= api.MaxMasters; masters++ {
		p := asking(t, masters, mine, 4)
		for from := 1; from <= masters; from++ {
			p.Promise(uint8(from), mine, nil)
		}
		proposes(t, p, command(1), 4)
		proposes(t, p, command(2), 5)
		want := is{Leading, mine, 6, entries(4, command(1), command(2))}
		bad := func() {
			for _, from := range strangers(masters) {
				waits(t, p, from, mine, 4)
				waits(t, p, from, mine, 5)
			}
			for from := range uint8(masters + 2) {
				for _, b := range others {
					waits(t, p, from, b, 4)
					waits(t, p, from, b, 5)
				}
				for _, slot := range []uint32{0, 3, 6, 7, 4 + 256, 1<<31 + 4, last} {
					waits(t, p, from, mine, slot)
				}
			}
			has(t, p, want)
		}
		bad()
		for from := 1; from <= masters/2; from++ {
			waits(t, p, uint8(from), mine, 4)
			for again := 1; again <= from; again++ {
				waits(t, p, uint8(again), mine, 4)
			}
			bad()
		}
		decides(t, p, uint8(masters), mine, 4, command(1))
		want.pending = want.pending[1:]
		bad()
	}
}

// P12.3: only for a proposer that leads an Accepted counts; what was accepted in an earlier ballot, or before a Start with the same one, is forgotten.
func TestAcceptedOnlyLeading(t *testing.T) {
	p := leading(t, 4, command(1))
	waits(t, p, 1, mine, 4)
	p.Start(mine, 4)
	waits(t, p, 2, mine, 4)
	has(t, p, is{phase: Asking, ballot: mine, next: 4})
	promises(t, p, 1, mine, false)
	waits(t, p, 2, mine, 4)
	promises(t, p, 2, mine, true)
	waits(t, p, 2, mine, 4)
	proposes(t, p, command(1), 4)
	waits(t, p, 2, mine, 4)
	decides(t, p, 1, mine, 4, command(1))
	p = leading(t, 4, command(1))
	waits(t, p, 1, mine, 4)
	p.Stop()
	waits(t, p, 2, mine, 4)
	waits(t, p, 2, mark.Ballot{}, 4)
	has(t, p, is{})
}

// P12.4: Learn removes the proposals below a slot, and makes the next slot at least that one.
func TestLearn(t *testing.T) {
	l := []view.Command{command(1), command(2), command(3)}
	for _, next := range []uint32{0, 1, 6, 7, 8, 9, 10, 11, 12, 1000, 1 << 31, last - 1, last} {
		p := leading(t, 7, l...)
		waits(t, p, 1, mine, 9)
		want := is{Leading, mine, max(next, 10), entries(7, l...)}
		want.pending = want.pending[min(max(next, 7)-7, 3):]
		for range 2 {
			p.Learn(next)
			has(t, p, want)
		}
		p.Learn(0)
		has(t, p, want)
		if next < last {
			proposes(t, p, command(4), want.next)
			waits(t, p, 1, mine, want.next)
			decides(t, p, 3, mine, want.next, command(4))
		} else {
			refuses(t, p)
		}
		if next <= 9 {
			decides(t, p, 3, mine, 9, command(3)) // who has accepted it is not forgotten
		} else {
			waits(t, p, 3, mine, 9)
		}
	}
}

// P12.4: Learn removes proposals also if some between them were decided, and makes room.
func TestLearnWithGaps(t *testing.T) {
	p := leading(t, 7, command(1), command(2), command(3), command(4))
	waits(t, p, 2, mine, 8)
	decides(t, p, 1, mine, 8, command(2))
	p.Learn(9)
	has(t, p, is{Leading, mine, 11, entries(9, command(3), command(4))})
	p.Learn(8)
	has(t, p, is{Leading, mine, 11, entries(9, command(3), command(4))})
}

// P12.4: if it does not lead, a proposer learns nothing.
func TestLearnOnlyLeading(t *testing.T) {
	for _, next := range []uint32{0, 3, 8, last} {
		p := made(t, 3)
		p.Learn(next)
		has(t, p, is{})
		p = asking(t, 3, mine, 7)
		promises(t, p, 1, mine, false, entry(8, ballot(1, 1), 1))
		p.Learn(next)
		has(t, p, is{phase: Asking, ballot: mine, next: 7})
		promises(t, p, 2, mine, true)
		has(t, p, is{Leading, mine, 9, entries(7, view.Command{}, command(1))})
		p.Stop()
		p.Learn(next)
		has(t, p, is{})
	}
}

// A proposer that leads keeps nothing of the promises.
func TestForgetsPromises(t *testing.T) {
	p := asking(t, 3, mine, 7)
	promises(t, p, 1, mine, false, entry(8, ballot(1, 1), 1))
	promises(t, p, 2, mine, true, entry(9, ballot(1, 1), 2))
	if len(p.promises) > 0 || len(p.found) > 0 {
		t.Errorf("kept: %v %v", p.promises, p.found)
	}
	has(t, p, is{Leading, mine, 10, entries(7, view.Command{}, command(1), command(2))})
}

// P12.4: a nil proposer does nothing and has nothing.
func TestNil(t *testing.T) {
	var p *Proposer
	for _, n := range []uint32{0, 1, last} {
		p.Start(mine, n)
		has(t, p, is{})
		p.Stop()
		p.Learn(n)
		for _, b := range []mark.Ballot{{}, mine} {
			promises(t, p, 1, b, false, entry(n, b, 1))
			waits(t, p, 1, b, n)
		}
		refuses(t, p)
		has(t, p, is{})
	}
}

// The entries of a promise are neither changed nor kept, and what is returned is new.
func TestSharesNothing(t *testing.T) {
	l := []frame.Entry{entry(4, ballot(1, 1), 1), entry(3, ballot(2, 1), 2), entry(4, ballot(3, 1), 3), entry(99, mine, 99)}
	before := slices.Clone(l)
	p := asking(t, 2, mine, 3)
	promises(t, p, 1, mine, false, l[:3]...)
	if !slices.Equal(l, before) {
		t.Errorf("changed: %v", l)
	}
	clear(l)
	promises(t, p, 2, mine, true)
	want := is{Leading, mine, 5, entries(3, command(2), command(3))}
	has(t, p, want)
	clear(p.Pending())
	_ = append(p.Pending()[:1], frame.Entry{})
	has(t, p, want)
	old := p.Pending()
	p.Learn(4)
	proposes(t, p, command(5), 5)
	if !slices.Equal(old, want.pending) {
		t.Errorf("changed: %v", old)
	}
}

// Two proposers share nothing.
func TestTwoProposers(t *testing.T) {
	a, b := leading(t, 0, command(1)), leading(t, 0, command(2))
	waits(t, a, 1, mine, 0)
	waits(t, b, 2, mine, 0)
	a.Stop()
	decides(t, b, 1, mine, 0, command(2))
	has(t, a, is{})
}

// model is a proposer in the words of the chapter: all that it was told since it was started, and the proposals by their slots.
type model struct {
	masters   int
	phase     int
	ballot    mark.Ballot
	from      uint64
	next      uint64
	promised  []uint8
	arrived   []frame.Entry
	proposals map[uint64]*proposed
}

type proposed struct {
	command  view.Command
	accepted map[uint8]bool
}

func (m *model) start(b mark.Ballot, from uint32) {
	*m = model{masters: m.masters, phase: Asking, ballot: b, from: uint64(from), next: uint64(from), proposals: map[uint64]*proposed{}}
}

func (m *model) promise(from uint8, b mark.Ballot, l []frame.Entry) bool {
	if m.phase != Asking || b != m.ballot || from == 0 || int(from) > m.masters || slices.Contains(m.promised, from) {
		return false
	}
	m.promised = append(m.promised, from)
	m.arrived = append(m.arrived, l...)
	if len(m.promised) < m.masters/2+1 {
		return false
	}
	m.phase = Leading
	top := -1
	for i := range api.MaxEntries {
		best := -1
		for k, x := range m.arrived {
			if uint64(x.Slot) != m.from+uint64(i) {
				continue
			}
			y := m.arrived[max(best, 0)].Ballot
			if best < 0 || x.Ballot.N > y.N || x.Ballot.N == y.N && x.Ballot.By > y.By {
				best = k
			}
		}
		m.proposals[m.from+uint64(i)] = &proposed{accepted: map[uint8]bool{}}
		if best >= 0 {
			m.proposals[m.from+uint64(i)].command = m.arrived[best].Command
			top = i
		}
	}
	for i := top + 1; i < api.MaxEntries; i++ {
		delete(m.proposals, m.from+uint64(i))
	}
	m.next = min(m.from+uint64(top+1), last)
	return true
}

func (m *model) propose(c view.Command) (uint32, bool) {
	if m.phase != Leading || len(m.proposals) >= api.MaxEntries || m.next == last {
		return 0, false
	}
	m.proposals[m.next] = &proposed{c, map[uint8]bool{}}
	m.next++
	return uint32(m.next - 1), true
}

func (m *model) acceptedBy(from uint8, b mark.Ballot, slot uint32) (view.Command, bool) {
	x := m.proposals[uint64(slot)]
	if m.phase != Leading || b != m.ballot || from == 0 || int(from) > m.masters || x == nil {
		return view.Command{}, false
	}
	x.accepted[from] = true
	if len(x.accepted) < m.masters/2+1 {
		return view.Command{}, false
	}
	delete(m.proposals, uint64(slot))
	return x.command, true
}

func (m *model) learn(next uint32) {
	if m.phase != Leading {
		return
	}
	for slot := range m.proposals {
		if slot < uint64(next) {
			delete(m.proposals, slot)
		}
	}
	m.next = max(m.next, uint64(next))
}

func (m *model) now() is {
	w := is{phase: m.phase, ballot: m.ballot, next: uint32(m.next)}
	var slots []uint64
	for slot := range m.proposals {
		slots = append(slots, slot)
	}
	slices.Sort(slots)
	for _, slot := range slots {
		w.pending = append(w.pending, frame.Entry{Slot: uint32(slot), Ballot: m.ballot, Command: m.proposals[slot].command})
	}
	return w
}

// P12.1 to P12.4: whatever is called, a proposer is what the words of the chapter say.
func TestAgreesWithTheWords(t *testing.T) {
	led, decided := 0, 0
	for seed := range 1500 {
		r := rand.New(rand.NewSource(int64(seed)))
		masters := r.Intn(api.MaxMasters) + 1
		p, m := made(t, masters), &model{masters: masters}
		base := []uint32{0, 3, 1000, last - 40, last - 10, last - 2}[r.Intn(6)]
		slot := func() uint32 { return base + uint32(r.Intn(24)) - 2 }
		some := func() mark.Ballot { return ballot(uint32(r.Intn(2)), uint8(r.Intn(2))) }
		for range 80 {
			who, b := uint8(r.Intn(masters+2)), m.ballot
			if r.Intn(8) == 0 {
				b = some()
			}
			switch n := r.Intn(100); {
			case n < 2 || m.phase == Idle && n < 40:
				b, from := some(), slot()
				p.Start(b, from)
				m.start(b, from)
			case n < 3:
				p.Stop()
				*m = model{masters: masters}
			case n < 30:
				var l []frame.Entry
				for range r.Intn(6) {
					l = append(l, entry(slot(), some(), r.Intn(1000)))
				}
				got, want := p.Promise(who, b, l), m.promise(who, b, l)
				if got != want {
					t.Errorf("Promise: %v, want %v", got, want)
				}
				if got {
					led++
				}
			case n < 48:
				c := command(r.Intn(1000))
				got, ok := p.Propose(c)
				if want, is := m.propose(c); got != want || ok != is {
					t.Errorf("Propose: %d %v, want %d %v", got, ok, want, is)
				}
			case n < 94:
				at := slot()
				if l := m.now().pending; len(l) > 0 && r.Intn(8) > 0 {
					at = l[r.Intn(len(l))].Slot
				}
				got, ok := p.Accepted(who, b, at)
				if want, is := m.acceptedBy(who, b, at); got != want || ok != is {
					t.Errorf("Accepted: %v %v, want %v %v", got, ok, want, is)
				}
				if ok {
					decided++
				}
			default:
				next := base + uint32(r.Intn(12)) - 2
				p.Learn(next)
				m.learn(next)
			}
			has(t, p, m.now())
			if t.Failed() {
				t.Fatalf("seed %d, %d masters", seed, masters)
			}
		}
	}
	if led < 500 || decided < 1000 {
		t.Errorf("led %d times, %d commands were decided: too few to tell", led, decided)
	}
}

// letter is a call of a proposer of a master, or of the acceptor of another one, on its way.
type letter func()

// P12.2, P12.3: with acceptors whose answers come in any order, late, twice or not at all, no two commands are decided in a slot, whoever leads, as P14.5 needs it.
func TestNothingElseIsDecided(t *testing.T) {
	decided := 0
	for seed := range 300 {
		r := rand.New(rand.NewSource(int64(seed)))
		masters := r.Intn(api.MaxMasters) + 1
		var acceptors []*acceptor.Acceptor
		var proposers []*Proposer
		for i := range masters {
			d := disk.New()
			acceptor.Make(d, uint8(i+1), view.View{})
			a, e := acceptor.Open(d, uint8(i+1))
			if e != api.OK {
				t.Fatal(e)
			}
			acceptors, proposers = append(acceptors, a), append(proposers, made(t, masters))
		}
		chosen := map[uint32]view.Command{}
		choose := func(slot uint32, c view.Command) {
			if old, ok := chosen[slot]; ok && old != c {
				t.Errorf("seed %d, %d masters: %v and %v are decided in %d", seed, masters, old, c, slot)
			}
			chosen[slot] = c
		}
		var way []letter
		number := 0
		for range 400 {
			i := r.Intn(masters)
			p := proposers[i]
			phase, b, _ := p.Phase()
			switch n := r.Intn(20); {
			case n == 0:
				number++
				b := ballot(uint32(number), uint8(i+1))
				p.Start(b, 0)
				for k, a := range acceptors {
					way = append(way, func() {
						if l, e := a.Prepare(b, 0); e == api.OK {
							way = append(way, func() { p.Promise(uint8(k+1), b, l) })
						}
					})
				}
			case n < 4 && phase == Leading:
				number++
				p.Propose(command(number))
				for _, x := range p.Pending() {
					for k, a := range acceptors {
						way = append(way, func() {
							if a.Accept(b, x.Slot, x.Command) == api.OK {
								way = append(way, func() {
									if c, ok := p.Accepted(uint8(k+1), b, x.Slot); ok {
										choose(x.Slot, c)
									}
								})
							}
						})
					}
				}
			case len(way) > 0:
				k := r.Intn(len(way))
				way[k]()
				if r.Intn(6) > 0 { // otherwise it comes again
					way = slices.Delete(way, k, k+1)
				}
				if len(way) > 60 {
					way = way[30:]
				}
			}
		}
		decided += len(chosen)
	}
	if decided < 300 {
		t.Errorf("%d slots were decided: too few to tell", decided)
	}
}
