package paxos

import (
	"math/rand"
	"slices"
	"testing"

	"talaria/acceptor"
	"talaria/api"
	"talaria/disk"
	"talaria/frame"
	"talaria/learner"
	"talaria/view"
)

// letter is an encoded frame on its way to a master.
type letter struct {
	to   uint8
	text string
}

// masters are engines, the letters between them, and what any of them has ever applied in each slot.
type masters struct {
	t       *testing.T
	r       *rand.Rand
	disks   []*disk.Disk
	engines []*Engine // nil while a master is down
	way     []letter
	chosen  map[uint32]learner.Applied
	leaders map[uint8]struct{}
	snaps   int
	again   int // how many masters have been started again
	next    int // number of the next command
}

func newMasters(t *testing.T, seed, n int) *masters {
	m := &masters{t: t, r: rand.New(rand.NewSource(int64(seed))), chosen: map[uint32]learner.Applied{}, leaders: map[uint8]struct{}{}}
	for i := range n {
		d := given(t, uint8(i+1))
		m.disks = append(m.disks, d)
		m.engines = append(m.engines, open(t, d, uint8(i+1), n, 2, is{view: first(3)}))
	}
	return m
}

// does notes what an engine has sent and applied, and checks it against what all have applied.
func (m *masters) does(i int, out Out) {
	m.t.Helper()
	for _, a := range out.Applied {
		old, ok := m.chosen[a.Slot]
		if ok && !equal(Out{Applied: []learner.Applied{old}}, Out{Applied: []learner.Applied{a}}) {
			m.t.Errorf("master %d has applied %v, another one %v", i+1, a, old)
		}
		m.chosen[a.Slot] = a
	}
	for _, f := range out.Frames {
		s, e := frame.Encode(f)
		if e != api.OK || f.From != uint8(i+1) {
			m.t.Errorf("master %d sends %v: %v", i+1, f, e)
		}
		if f.Kind == frame.Snap {
			m.snaps++
		}
		m.way = append(m.way, letter{f.To, s})
	}
	x := m.engines[i]
	if x.Leads() {
		m.leaders[uint8(i+1)] = struct{}{}
	}
	if next, v := x.Next(); next > 0 && !view.Same(v, m.chosen[next-1].View) {
		m.t.Errorf("master %d has the view %v behind the slot %d, want %v", i+1, v, next-1, m.chosen[next-1].View)
	}
	if l := out.Applied; len(l) > 0 {
		if next, _ := x.Next(); l[len(l)-1].Slot != next-1 {
			m.t.Errorf("master %d has applied %v, but its next slot is %d", i+1, l, next)
		}
	}
}

// deliver brings a letter, or a copy of it, to its master.
func (m *masters) deliver(k int, again bool) {
	l := m.way[k]
	if !again {
		m.way = slices.Delete(m.way, k, k+1)
	}
	f, e := frame.Decode(l.text)
	if e != api.OK {
		m.t.Fatalf("Decode: %v", e)
	}
	if i := int(l.to) - 1; m.engines[i] != nil {
		m.does(i, m.engines[i].On(f))
	}
}

// crash switches a master's power off: now and then it runs on without its disk, until it is started again.
func (m *masters) crash(i int) {
	m.disks[i].Crash(m.r.Intn(40))
	if m.r.Intn(3) > 0 {
		m.engines[i] = nil
	}
}

// start switches a master's power on.
func (m *masters) start(i int) {
	m.disks[i].Start()
	x, e := Open(m.disks[i], uint8(i+1), len(m.disks), 2)
	if e != api.OK {
		m.t.Fatalf("Open: %v", e)
	}
	m.engines[i] = x
	m.again++
	m.does(i, Out{})
}

// command returns a command that is proposed once; many of them hold.
func (m *masters) command() view.Command {
	m.next++
	return view.Command{
		Kind: uint8(m.r.Intn(5)), Node: uint8(m.r.Intn(4)) + 1, Life: uint8(m.r.Intn(6)) + 1,
		Epoch: uint32(m.r.Intn(4)) + 1, Req: uint32(m.next),
	}
}

// step does something at random: lossy of a hundred letters are lost.
func (m *masters) step(lossy, crashes int) {
	i := m.r.Intn(len(m.disks))
	up := m.engines[i] != nil
	switch n := m.r.Intn(100); {
	case n < crashes && m.disks[i].On():
		m.crash(i)
	case !m.disks[i].On() && n < 30:
		m.start(i)
	case n < 20 && up:
		m.does(i, m.engines[i].Tick())
	case n < 30 && up:
		out, ok := m.engines[i].Propose(m.command())
		if ok != (len(out.Frames)+len(out.Applied) > 0) && len(m.disks) > 1 {
			m.t.Errorf("Propose: %v %v", out, ok)
		}
		m.does(i, out)
	case len(m.way) > 0:
		k := m.r.Intn(len(m.way))
		if m.r.Intn(100) < lossy {
			m.way = slices.Delete(m.way, k, k+1)
		} else {
			m.deliver(k, m.r.Intn(5) == 0)
		}
	}
	if len(m.way) > 120 { // the oldest are lost
		m.way = m.way[60:]
	}
}

// P14.5: whatever is lost, comes twice, late or in another order, and whichever masters crash, no two of them apply different commands in a slot, and their views are those that these commands leave.
func TestNoTwoApplyDifferentCommands(t *testing.T) {
	leaders, snaps, again, slots := 0, 0, 0, 0
	for seed := range 300 {
		n := seed%api.MaxMasters + 1
		m := newMasters(t, seed, n)
		lossy, crashes := m.r.Intn(40), m.r.Intn(3)
		for range 3000 {
			m.step(lossy, crashes)
			if t.Failed() {
				t.Fatalf("seed %d, %d masters", seed, n)
			}
		}
		leaders += len(m.leaders)
		snaps += m.snaps
		again += m.again
		slots += len(m.chosen)
	}
	if leaders < 300 || snaps < 500 || again < 2000 || slots < 10000 {
		t.Errorf("%d leaders, %d snapshots, %d starts, %d slots: too few to tell", leaders, snaps, again, slots)
	}
}

// P14.5: the same with frames that no master has sent, but that don't lie about what is promised, accepted and decided.
func TestStrayFrames(t *testing.T) {
	for seed := range 60 {
		n := seed%4 + 2
		m := newMasters(t, seed, n)
		for range 1500 {
			m.step(20, 1)
			i := m.r.Intn(n)
			next, _ := m.max()
			f := frame.Frame{Head: head(0, uint8(m.r.Intn(n+2)), uint8(i+1)), Slot: next + uint32(m.r.Intn(40)) - 20, Flag: m.r.Intn(9) == 0, Ballot: ballot(uint32(m.r.Intn(30)), 9)}
			f.Kind = []uint8{frame.Prepare, frame.Refuse, frame.Have, frame.Hello, 0}[m.r.Intn(5)]
			if m.r.Intn(8) == 0 && m.engines[i] != nil {
				m.does(i, m.engines[i].On(f))
			}
			m.way = slices.DeleteFunc(m.way, func(l letter) bool { return l.to == 0 || int(l.to) > n })
			if t.Failed() {
				t.Fatalf("seed %d, %d masters", seed, n)
			}
		}
	}
}

// max returns the greatest next slot, and the view of the master that has it.
func (m *masters) max() (uint32, view.View) {
	var top uint32
	var v view.View
	for _, x := range m.engines {
		if next, w := x.Next(); next >= top {
			top, v = next, w
		}
	}
	return top, v
}

// Once all are up and nothing is lost any more, one of them gets its commands decided, and all learn them.
func TestAllLearn(t *testing.T) {
	for seed := range 60 {
		n := seed%api.MaxMasters + 1
		m := newMasters(t, seed, n)
		for range 600 {
			m.step(40, 2)
		}
		for i := range n {
			if !m.disks[i].On() || m.engines[i] == nil {
				m.start(i)
			}
		}
		for round := range 400 {
			for i := range n {
				m.does(i, m.engines[i].Tick())
				if x := m.engines[i]; x.Leads() && round < 300 {
					out, _ := x.Propose(m.command())
					m.does(i, out)
				}
				for len(m.way) > 0 {
					m.deliver(0, false)
				}
			}
		}
		before, v := m.max()
		for i, x := range m.engines {
			if next, w := x.Next(); next != before || !view.Same(v, w) {
				t.Errorf("seed %d: master %d of %d has %d %v, want %d %v", seed, i+1, n, next, w, before, v)
			}
		}
		if before < 200 {
			t.Errorf("seed %d, %d masters: %d slots", seed, n, before)
		}
	}
}

// P14.5: a command that was decided while a master was down is proposed again by that master, if it leads later.
func TestLeaderLearnsWhatWasDecided(t *testing.T) {
	var disks []*disk.Disk
	for i := range 3 {
		disks = append(disks, given(t, uint8(i+1)))
	}
	a, _ := acceptor.Open(disks[2], 3) // has accepted, together with master 1
	b := ballot(4, 1)
	if e := a.Accept(b, 0, command(7)); e != api.OK {
		t.Fatal(e)
	}
	w := is{view: first(3)}
	x := open(t, disks[1], 2, 3, patience, w)
	stands(t, x, limit, mine)
	y := open(t, disks[2], 3, 3, patience, w)
	does(t, "On", y.On(prepare(2, 3, mine, 0)), nil, refuse(3, 2, b))
	on(t, x, refuse(3, me, b))
	stands(t, x, limit, ballot(5, me))
	does(t, "On", y.On(prepare(2, 3, ballot(5, me), 0)), nil, promise(3, 2, ballot(5, me), 0, entry(0, b, 7)))
	on(t, x, promise(3, me, ballot(5, me), 0, entry(0, b, 7)), accepts(ballot(5, me), 0, command(7))...)
	w.leads, w.busy = true, 1
	has(t, x, w)
	w = learns(t, x, w, accepted(3, me, ballot(5, me), 0), []view.Command{command(7)}, decisions(0, command(7))...)
	w.busy = 0
	has(t, x, w)
}
