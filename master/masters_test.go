package master

import (
	"math/rand"
	"slices"
	"testing"

	"talaria/api"
	"talaria/disk"
	"talaria/frame"
	"talaria/learner"
	"talaria/paxos"
	"talaria/view"
)

// letter is an encoded frame on its way to an address.
type letter struct {
	to   uint8
	text string
}

// client is what the masters see of a node: it says Hello, and it takes leases and views.
type client struct {
	up        bool
	number    uint8
	life      uint8
	epoch     uint32 // of its view, or 0
	req, last uint32 // the open request, and the last one
	leases    int
}

// proposal is a command that was proposed for a slot.
type proposal struct {
	slot    uint32
	command view.Command
}

// store is masters and nodes, the letters between them, and what any master has ever applied in each slot.
type store struct {
	t        *testing.T
	r        *rand.Rand
	config   Config
	disks    []*disk.Disk
	masters  []*Master // nil while a master is down
	nodes    []*client
	way      []letter
	ticks    []int // of each master, through all its lives
	cut      int   // the master that no letter reaches or leaves, or -1
	chosen   map[uint32]learner.Applied
	at       map[uint32][]int // the ticks of the masters when a slot was applied first
	proposed map[proposal]struct{}
	removes  int
	close    int // removes that were proposed as soon as wait allows
	skips    int
}

func newStore(t *testing.T, seed int) *store {
	s := &store{t: t, r: rand.New(rand.NewSource(int64(seed))), cut: -1}
	s.chosen, s.at, s.proposed = map[uint32]learner.Applied{}, map[uint32][]int{}, map[proposal]struct{}{}
	s.config = Config{Masters: seed%api.MaxMasters + 1, Nodes: 3, Patience: 2, Suspect: s.r.Intn(8) + 1, Wait: s.r.Intn(40) + 1}
	for i := range s.config.Masters {
		s.disks = append(s.disks, given(t, uint8(i+1)))
		s.masters = append(s.masters, nil)
		s.ticks = append(s.ticks, 0)
		s.open(i)
	}
	for i := range s.config.Nodes {
		s.nodes = append(s.nodes, &client{up: true, number: uint8(i + 1), life: 1, epoch: 1})
	}
	return s
}

func (s *store) open(i int) {
	s.disks[i].Start()
	c := s.config
	c.Self = uint8(i + 1)
	s.masters[i] = open(s.t, s.disks[i], c)
}

// send puts a frame on its way.
func (s *store) send(f frame.Frame) {
	text, e := frame.Encode(f)
	if e != api.OK {
		s.t.Fatalf("Encode: %v", e)
	}
	s.way = append(s.way, letter{f.To, text})
}

// does calls a master, and checks what it has sent and applied.
func (s *store) does(i int, call func(m *Master) paxos.Out) {
	m := s.masters[i]
	before, _ := m.Next()
	out := call(m)
	if next, _ := m.Next(); int(next-before) > len(out.Applied) {
		s.skips++
	}
	var leases []frame.Frame
	for _, a := range out.Applied {
		s.apply(i, a)
		if a.Command.Kind == view.Grant && a.Holds {
			f := lease(a.Command)
			f.From = uint8(i + 1)
			leases = append(leases, f)
		}
	}
	sent := slices.DeleteFunc(slices.Clone(out.Frames), func(f frame.Frame) bool { return f.Kind != frame.Lease })
	if !slices.EqualFunc(sent, leases, frame.Same) {
		s.t.Fatalf("master %d sends %v for %v", i+1, out.Frames, out.Applied)
	}
	for _, f := range out.Frames {
		if f.From != uint8(i+1) {
			s.t.Fatalf("master %d sends %v", i+1, f)
		}
		if f.Kind == frame.Accept {
			s.propose(i, f.Slot, f.Command)
		}
		if i != s.cut {
			s.send(f)
		}
	}
}

// apply notes what a master has applied in a slot: no other one has applied anything else there.
func (s *store) apply(i int, a learner.Applied) {
	old, ok := s.chosen[a.Slot]
	if !ok {
		s.propose(i, a.Slot, a.Command) // a single master sends no Accepts
		s.chosen[a.Slot], s.at[a.Slot] = a, slices.Clone(s.ticks)
		return
	}
	if !equal(paxos.Out{Applied: []learner.Applied{old}}, paxos.Out{Applied: []learner.Applied{a}}) {
		s.t.Fatalf("master %d has applied %v, another one %v", i+1, a, old)
	}
}

// propose checks a Remove when it is proposed for the first time: all slots before it are decided, and wait ticks of that master have passed since a lease was granted to the node in one of them.
func (s *store) propose(i int, slot uint32, c view.Command) {
	p := proposal{slot, c}
	if _, again := s.proposed[p]; again || c.Kind != view.Remove {
		return
	}
	s.proposed[p] = struct{}{}
	s.removes++
	for before := range slot {
		a, ok := s.chosen[before]
		if !ok {
			s.t.Fatalf("master %d proposes %+v for the slot %d, but the slot %d is not decided", i+1, c, slot, before)
		}
		if a.Command.Kind != view.Grant || a.Command.Node != c.Node || !a.Holds {
			continue
		}
		since := s.ticks[i] - s.at[before][i]
		if since < s.config.Wait {
			s.t.Fatalf("master %d proposes %+v for the slot %d, %d of %d ticks since the lease of the slot %d", i+1, c, slot, since, s.config.Wait, before)
		}
		if since == s.config.Wait {
			s.close++
		}
	}
}

// tick lets a node say Hello to all masters, most often with a request.
func (s *store) tick(n *client) {
	if !n.up {
		return
	}
	if n.req == 0 && n.epoch > 0 && s.r.Intn(3) > 0 {
		n.last++
		n.req = n.last
	}
	for i := range s.masters {
		if i != s.cut {
			s.send(frame.Frame{Head: head(frame.Hello, Base+n.number, uint8(i+1)), Epoch: n.epoch, Life: n.life, Req: n.req, Flag: n.epoch > 0 && s.r.Intn(3) > 0})
		}
	}
}

// takes handles the frames of a node: a view from which it was removed begins another life.
func (s *store) takes(n *client, f frame.Frame) {
	switch {
	case !n.up:
	case f.Kind == frame.Lease && n.req > 0 && f.Req == n.req && f.Epoch == n.epoch && f.Life == n.life:
		n.req = 0
		n.leases++
	case f.Kind == frame.News && f.View.Epoch > n.epoch && f.View.Has(n.number, n.life):
		n.epoch, n.req = f.View.Epoch, 0
	case f.Kind == frame.News && f.View.Epoch > n.epoch && f.View.Lives[n.number-1] >= n.life:
		n.begin()
	}
}

func (n *client) begin() {
	n.up = true
	n.life++
	n.epoch, n.req, n.last = 0, 0, 0
}

// deliver brings a letter, or a copy of it, to its receiver.
func (s *store) deliver(k int, again bool) {
	l := s.way[k]
	if !again {
		s.way = slices.Delete(s.way, k, k+1)
	}
	f, e := frame.Decode(l.text)
	if e != api.OK {
		s.t.Fatalf("Decode: %v", e)
	}
	if l.to > Base {
		s.takes(s.nodes[l.to-Base-1], f)
	} else if i := int(l.to) - 1; s.masters[i] != nil && i != s.cut {
		s.does(i, func(m *Master) paxos.Out { return m.On(f) })
	}
}

// beat lets a master tick, or starts it again.
func (s *store) beat(i int) {
	if s.masters[i] == nil {
		s.open(i)
		return
	}
	s.ticks[i]++
	s.does(i, (*Master).Tick)
}

// step does something at random: lossy of a hundred letters are lost.
func (s *store) step(lossy int) {
	i := s.r.Intn(len(s.masters))
	n := s.nodes[s.r.Intn(len(s.nodes))]
	switch k := s.r.Intn(1000); {
	case k < 2:
		s.disks[i].Crash(s.r.Intn(40))
		s.masters[i] = nil
	case k < 6:
		s.cut = s.r.Intn(2*len(s.masters)) - len(s.masters)
	case k < 8:
		n.up = false
	case k < 14 && !n.up && n.life < api.MaxLife:
		n.begin()
	case k < 110:
		s.beat(i)
	case k < 160:
		s.tick(n)
	case len(s.way) > 0:
		k := s.r.Intn(len(s.way))
		if s.r.Intn(100) < lossy {
			s.way = slices.Delete(s.way, k, k+1)
		} else {
			s.deliver(k, s.r.Intn(8) == 0)
		}
	}
	if len(s.way) > 100 { // the oldest are lost
		s.way = s.way[50:]
	}
}

// P16.2, P16.3: whatever is lost, comes twice, late or in another order, and whichever masters crash or are cut off, no member is removed before wait ticks after its last grant, and no two masters apply different commands in a slot.
func TestNoMemberIsRemovedEarly(t *testing.T) {
	removes, close, skips, slots := 0, 0, 0, 0
	for seed := range 400 {
		s := newStore(t, seed)
		lossy := s.r.Intn(30)
		for range 6000 {
			s.step(lossy)
		}
		removes += s.removes
		close += s.close
		skips += s.skips
		slots += len(s.chosen)
	}
	if removes < 3000 || close < 200 || skips < 400 || slots < 10000 {
		t.Errorf("%d removes, %d of them close, %d times skipped slots, %d slots: too few to tell", removes, close, skips, slots)
	}
}

// round lets everybody tick, and delivers all letters in order.
func (s *store) round() {
	for i := range s.masters {
		s.beat(i)
	}
	for _, n := range s.nodes {
		s.tick(n)
	}
	for len(s.way) > 0 {
		s.deliver(0, false)
	}
}

// ready reports whether a ready member of the last view is up.
func (s *store) ready() bool {
	v, top := first(3), uint32(0)
	for slot, a := range s.chosen {
		if slot >= top {
			v, top = a.View, slot
		}
	}
	return slices.ContainsFunc(s.nodes, func(n *client) bool {
		m, ok := v.Find(n.number)
		return ok && m.Ready && n.up && n.life == m.Life
	})
}

// Once nothing is lost any more, the view has exactly the nodes that are up, all of them ready, and they get their leases, if one of them was ready before.
func TestAllNodesThatAreUp(t *testing.T) {
	tried := 0
	for seed := range 90 {
		s := newStore(t, seed)
		for range 1500 {
			s.step(30)
		}
		if !s.ready() {
			continue
		}
		tried++
		s.cut = -1
		s.config.Suspect = 8 // for those that are opened again: a tick without a Hello is no silence
		for i := range s.masters {
			s.masters[i] = nil
		}
		for range 300 {
			s.round()
		}
		before := make([]int, len(s.nodes))
		for i, n := range s.nodes {
			before[i] = n.leases
		}
		for range 60 {
			s.round()
		}
		for i, m := range s.masters {
			for k, n := range s.nodes {
				_, v := m.Next()
				x, ok := v.Find(n.number)
				if ok != n.up || n.up && x != (view.Member{Node: n.number, Life: n.life, Ready: true}) {
					t.Errorf("seed %d: master %d of %d has the view %v, but node %d is %+v", seed, i+1, len(s.masters), v, k+1, n)
				}
				if n.up && n.leases < before[k]+5 {
					t.Errorf("seed %d: node %d has had %d leases in 60 rounds", seed, k+1, n.leases-before[k])
				}
			}
		}
	}
	if tried < 40 {
		t.Errorf("%d tried: too few to tell", tried)
	}
}
