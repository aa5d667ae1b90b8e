package roster

import (
	"math"
	"math/rand"
	"slices"
	"testing"

	"talaria/api"
	"talaria/view"
)

// The type has the fields of the chapter, and only these: otherwise this does not compile.
var _ = struct {
	Node, Life uint8
	Epoch, Req uint32
	Complete   bool
}(Word{})

const last = math.MaxUint32

var none = view.Command{} // what is returned if nothing is wanted

// first returns the view of so many nodes.
func first(nodes int) view.View {
	v, _ := view.First(nodes)
	return v
}

// open returns a view of these members in the epoch 7, to which other nodes can be added in any life.
func open(l ...view.Member) view.View { return view.View{Epoch: 7, Members: l} }

// of returns a view of these members in the epoch 7, to which no node can be added.
func of(l ...view.Member) view.View {
	v := open(l...)
	for i := range v.Lives {
		v.Lives[i] = 255
	}
	return v
}

func remove(node, life uint8) view.Command {
	return view.Command{Kind: view.Remove, Node: node, Life: life}
}

func add(node, life uint8) view.Command {
	return view.Command{Kind: view.Add, Node: node, Life: life}
}

func settle(node, life uint8) view.Command {
	return view.Command{Kind: view.Settle, Node: node, Life: life}
}

func grant(node, life uint8, epoch, req uint32) view.Command {
	return view.Command{Kind: view.Grant, Node: node, Life: life, Epoch: epoch, Req: req}
}

// others are commands that are no Grants, but have the fields of c.
func others(c view.Command) []view.Command {
	var l []view.Command
	for _, kind := range []uint8{view.Noop, view.Add, view.Remove, view.Settle, 5, 132, 255} {
		c.Kind = kind
		l = append(l, c)
	}
	return l
}

// made returns a new roster.
func made(t *testing.T, suspect, wait int) *Roster {
	t.Helper()
	r, e := New(suspect, wait)
	if r == nil || e != api.OK {
		t.Fatalf("New(%d, %d): %v %v", suspect, wait, r, e)
	}
	return r
}

// ticks passes so many ticks.
func ticks(r *Roster, n int) {
	for range n {
		r.Tick()
	}
}

// wants checks what is wanted for a view, twice: the answer changes nothing.
func wants(t *testing.T, r *Roster, v view.View, want view.Command) {
	t.Helper()
	for range 2 {
		if c, ok := r.Want(v); c != want || ok != (want != none) {
			t.Fatalf("Want(%v): %+v %v, want %+v", v, c, ok, want)
		}
	}
}

// after checks that a command is wanted after so many ticks, and that before them something else or nothing is.
func after(t *testing.T, r *Roster, v view.View, n int, before, want view.Command) {
	t.Helper()
	for range n {
		wants(t, r, v, before)
		r.Tick()
	}
	wants(t, r, v, want)
}

// P15.1: suspect and wait are between 1 and 1000.
func TestNew(t *testing.T) {
	for n := 1; n <= 1000; n++ {
		made(t, n, 5)
		made(t, 5, n)
	}
	made(t, 1, 1)
	made(t, 1000, 1000)
}

// P15.1: beyond the bounds New returns ErrArg, and no roster.
func TestNewOutOfRange(t *testing.T) {
	refused := func(suspect, wait int) {
		t.Helper()
		if r, e := New(suspect, wait); r != nil || e != api.ErrArg {
			t.Errorf("New(%d, %d): %v %v", suspect, wait, r, e)
		}
	}
	for _, n := range []int{math.MinInt, math.MinInt32, -1000, -1, 0, 1001, 1 << 16, 1<<32 + 1, math.MaxInt} {
		for _, valid := range []int{1, 7, 1000} {
			refused(n, valid)
			refused(valid, n)
		}
		refused(n, n)
	}
}

// P15.1, P15.2: the example of the chapter.
func TestExample(t *testing.T) {
	r := made(t, 10, 10)
	r.Hear(Word{Node: 1, Life: 1, Epoch: 1, Req: 5})
	wants(t, r, first(3), grant(1, 1, 1, 5))
}

// P15.2: a nil roster does nothing and wants nothing.
func TestNil(t *testing.T) {
	var r *Roster
	r.Tick()
	r.Hear(Word{Node: 1, Life: 1, Epoch: 1, Req: 5, Complete: true})
	r.Granted(grant(1, 1, 1, 5))
	r.Granted(none)
	r.Missed()
	for _, v := range []view.View{{}, first(1), first(8), of(view.Member{Node: 1, Life: 1})} {
		wants(t, r, v, none)
	}
}

// P15.2: a roster that has heard nothing wants nothing, for whatever view, before a member is lost.
func TestNothing(t *testing.T) {
	r := made(t, 1000, 1)
	for range 3 {
		for n := 1; n <= api.MaxNodes; n++ {
			wants(t, r, first(n), none)
		}
		wants(t, r, view.View{}, none)
		wants(t, r, of(view.Member{Node: 1}, view.Member{Node: 0, Life: 3}, view.Member{Node: 9, Life: 255, Ready: true}), none)
		r.Tick()
	}
	ticks(r, 2000)
	wants(t, r, view.View{}, none)
	wants(t, r, view.View{Epoch: last, Members: []view.Member{}}, none)
}

// P15.1: a word counts only if its node is between 1 and MaxNodes.
func TestHearOfNodes(t *testing.T) {
	for n := range 256 {
		node := uint8(n)
		r := made(t, 1000, 1000)
		r.Hear(Word{Node: node, Life: 1, Epoch: 7, Req: 5, Complete: true})
		want, added := grant(node, 1, 7, 5), add(node, 1)
		if node < 1 || node > api.MaxNodes {
			want, added = none, none
		}
		wants(t, r, of(view.Member{Node: node, Life: 1, Ready: true}), want)
		wants(t, r, open(), added)
		for k := uint8(1); k <= api.MaxNodes; k++ {
			if k != node {
				wants(t, r, of(view.Member{Node: k, Life: 1}), none)
			}
		}
	}
}

// P15.1: a word counts only if its life is between 1 and MaxLife.
func TestHearOfLives(t *testing.T) {
	for n := range 256 {
		life := uint8(n)
		r := made(t, 1000, 1000)
		r.Hear(Word{Node: 2, Life: life, Epoch: 7, Req: 5, Complete: true})
		granted, settled := grant(2, life, 7, 5), settle(2, life)
		if life < 1 || life > api.MaxLife {
			granted, settled = none, none
		}
		wants(t, r, of(view.Member{Node: 2, Life: life, Ready: true}), granted)
		wants(t, r, of(view.Member{Node: 2, Life: life}), settled)
	}
}

// P15.1: a word that does not count because of its life leaves the last one as it is.
func TestHearOfLivesOutOfRange(t *testing.T) {
	for _, life := range []uint8{0, 201, 202, 255} {
		r := made(t, 3, 5)
		v := of(view.Member{Node: 1, Life: 1, Ready: true}, view.Member{Node: 2, Life: 1, Ready: true})
		ticks(r, 5)
		r.Hear(Word{Node: 1, Life: 1})
		r.Hear(Word{Node: 2, Life: 1, Epoch: 7, Req: 5})
		r.Tick()
		r.Hear(Word{Node: 2, Life: life, Epoch: 7, Req: 9})
		r.Hear(Word{Node: 1, Life: 1})
		after(t, r, v, 2, grant(2, 1, 7, 5), remove(2, 1))
	}
}

// P15.1: a word of a lesser life than the last one does not count; one of the same life or a greater one replaces it.
func TestHearOfLaterLives(t *testing.T) {
	at := func(life uint8) view.View { return of(view.Member{Node: 3, Life: life}) }
	for _, life := range []uint8{2, 3, 100, 199} {
		r := made(t, 1000, 1000)
		r.Hear(Word{Node: 3, Life: life, Epoch: 7, Req: 4})
		r.Hear(Word{Node: 3, Life: life - 1, Epoch: 7, Req: 5, Complete: true})
		r.Hear(Word{Node: 3, Life: 1, Epoch: 7, Req: 6, Complete: true})
		wants(t, r, at(life), grant(3, life, 7, 4))
		wants(t, r, at(life-1), none)
		r.Hear(Word{Node: 4, Life: 1, Epoch: 7, Req: 6, Complete: true}) // another node's
		wants(t, r, view.View{Lives: [api.MaxNodes]uint8{3: 1}}, add(3, life))
		r.Hear(Word{Node: 3, Life: life, Epoch: 7, Req: 2, Complete: true})
		wants(t, r, at(life), settle(3, life))
		r.Hear(Word{Node: 3, Life: life, Epoch: 7, Req: 3})
		wants(t, r, at(life), grant(3, life, 7, 3))
		r.Hear(Word{Node: 3, Life: life, Epoch: 6, Req: 3})
		wants(t, r, at(life), none)
		r.Hear(Word{Node: 3, Life: life + 1, Epoch: 7, Req: 1})
		wants(t, r, at(life), none)
		wants(t, r, at(life+1), grant(3, life+1, 7, 1))
		r.Hear(Word{Node: 3, Life: life, Epoch: 7, Req: 8})
		wants(t, r, at(life+1), grant(3, life+1, 7, 1))
	}
}

// P15.2: a member is lost suspect ticks after its last word, and not before; each word renews it.
func TestLostBySilence(t *testing.T) {
	for _, suspect := range []int{1, 2, 10, 255, 256, 257, 999, 1000} {
		r := made(t, suspect, 1)
		ticks(r, 3)
		r.Hear(Word{Node: 1, Life: 1})
		r.Hear(Word{Node: 2, Life: 1})
		after(t, r, first(2), suspect, none, remove(1, 1))
		r.Hear(Word{Node: 2, Life: 1})
		wants(t, r, first(2), remove(1, 1))
		r.Hear(Word{Node: 1, Life: 1, Epoch: 99, Complete: true})
		after(t, r, first(2), suspect, none, remove(1, 1))
		ticks(r, 1500)
		r.Hear(Word{Node: 1, Life: 1})
		wants(t, r, first(2), remove(2, 1))
	}
}

// P15.2: a member of whose node there is no word is lost suspect ticks after the roster was created, and not before.
func TestLostWithoutAWord(t *testing.T) {
	for _, suspect := range []int{1, 2, 10, 256, 999, 1000} {
		for _, l := range [][]Word{nil, {{Node: 1, Life: 0}, {Node: 1, Life: 201}, {Node: 0, Life: 1}, {Node: 9, Life: 1}}} {
			r := made(t, suspect, 1)
			for range suspect {
				wants(t, r, first(3), none)
				r.Hear(Word{Node: 2, Life: 1})
				r.Hear(Word{Node: 3, Life: 1})
				r.Tick()
				for _, w := range l {
					r.Hear(w)
				}
			}
			wants(t, r, first(3), remove(1, 1))
		}
	}
}

// P15.2: a member whose node's last word has a lesser life is lost suspect ticks after the roster was created, whenever the word came.
func TestLostByALesserLife(t *testing.T) {
	v := of(view.Member{Node: 1, Life: 3, Ready: true}, view.Member{Node: 2, Life: 1, Ready: true})
	for _, suspect := range []int{1, 2, 10, 999, 1000} {
		for _, life := range []uint8{1, 2} {
			r := made(t, suspect, 1)
			for range suspect {
				wants(t, r, v, none)
				r.Tick()
				r.Hear(Word{Node: 1, Life: life})
				r.Hear(Word{Node: 2, Life: 1})
			}
			wants(t, r, v, remove(1, 3))
			r.Hear(Word{Node: 1, Life: 3})
			wants(t, r, v, none)
			ticks(r, suspect-1)
			r.Hear(Word{Node: 2, Life: 1})
			r.Tick()
			wants(t, r, v, remove(1, 3))
		}
	}
}

// P15.2: a member whose node's last word has a greater life is lost at once.
func TestLostByAGreaterLife(t *testing.T) {
	for _, life := range []uint8{2, 3, api.MaxLife} {
		r := made(t, 1000, 1)
		r.Tick()
		wants(t, r, first(2), none)
		r.Hear(Word{Node: 2, Life: life})
		wants(t, r, first(2), remove(2, 1))
		r.Hear(Word{Node: 2, Life: 1})
		wants(t, r, first(2), remove(2, 1))
		ticks(r, 1500)
		r.Hear(Word{Node: 1, Life: 1})
		wants(t, r, first(2), remove(2, 1))
	}
}

// P15.2: no member is removed before wait ticks since the roster was created, since a lease may have been granted before.
func TestWaitSinceTheBeginning(t *testing.T) {
	for _, wait := range []int{1, 2, 10, 256, 999, 1000} {
		r := made(t, 1, wait)
		r.Hear(Word{Node: 1, Life: 2})
		after(t, r, first(2), wait, none, remove(1, 1))
		r = made(t, 1000, wait)
		ticks(r, wait-1)
		r.Hear(Word{Node: 1, Life: 1})
		r.Hear(Word{Node: 2, Life: 5})
		after(t, r, first(2), 1, none, remove(2, 1))
	}
}

// P15.2: no member is removed before wait ticks since the last Grant of its node, in whatever life, epoch and request.
func TestWaitSinceAGrant(t *testing.T) {
	for _, wait := range []int{2, 10, 256, 999, 1000} {
		for _, c := range []view.Command{grant(2, 1, 1, 5), grant(2, 9, 0, 0), {Kind: view.Grant, Node: 2}} {
			r := made(t, 1, wait)
			ticks(r, wait+5)
			r.Hear(Word{Node: 1, Life: 1}) // for this tick, only the node 2 is lost
			wants(t, r, first(2), remove(2, 1))
			r.Granted(c)
			wants(t, r, first(2), none)
			r.Granted(grant(1, 1, 1, 1))
			ticks(r, wait-1)
			r.Hear(Word{Node: 1, Life: 1})
			wants(t, r, first(2), none)
			r.Tick()
			r.Granted(grant(1, 1, 1, 1))
			wants(t, r, first(2), remove(2, 1))
			r.Granted(c)
			after(t, r, first(2), wait, none, remove(1, 1))
		}
	}
}

// P15.1: commands of other kinds than Grant grant nothing.
func TestGrantedOfOtherKinds(t *testing.T) {
	for _, c := range others(grant(2, 1, 1, 5)) {
		r := made(t, 10, 5)
		r.Hear(Word{Node: 2, Life: 1, Epoch: 1, Req: 5})
		r.Granted(c)
		wants(t, r, first(2), grant(2, 1, 1, 5))
		r.Granted(grant(2, 1, 1, 5))
		wants(t, r, first(2), none)
		r.Granted(c)
		wants(t, r, first(2), none)
		ticks(r, 10)
		r.Hear(Word{Node: 1, Life: 1})
		r.Granted(c)
		wants(t, r, first(2), remove(2, 1))
	}
}

// P15.1, P15.2: after Missed, no member is removed before wait ticks, whichever node it is; but no lease is known by this.
func TestMissed(t *testing.T) {
	for _, wait := range []int{1, 2, 10, 999, 1000} {
		for node := uint8(1); node <= api.MaxNodes; node++ {
			v := of(view.Member{Node: node, Life: 3}, view.Member{Node: node%api.MaxNodes + 1, Life: 1, Ready: true})
			r := made(t, 1, wait)
			ticks(r, wait)
			wants(t, r, v, remove(node, 3))
			r.Missed()
			after(t, r, v, wait, none, remove(node, 3))
			r.Granted(grant(node, 3, 1, 1))
			wants(t, r, v, none)
			ticks(r, wait)
			r.Missed()
			r.Missed()
			after(t, r, v, wait, none, remove(node, 3))
			r.Hear(Word{Node: node, Life: 3, Epoch: 7, Req: 4})
			r.Granted(grant(node, 3, 7, 4))
			r.Missed()
			wants(t, r, v, none) // what was granted is not forgotten
			r.Hear(Word{Node: node, Life: 3, Epoch: 7, Req: 5})
			wants(t, r, v, grant(node, 3, 7, 5))
		}
	}
}

// P15.2: a member is removed only if it is lost, however long no lease was granted to it.
func TestNotLost(t *testing.T) {
	r := made(t, 2, 1)
	for range 100 {
		r.Hear(Word{Node: 1, Life: 1})
		wants(t, r, first(2), none)
		r.Hear(Word{Node: 2, Life: 1})
		r.Tick()
		wants(t, r, first(2), none)
	}
}

// P15.2: a lost member whose Remove does not hold is not removed, but the first one whose Remove does.
func TestRemoveThatDoesNotHold(t *testing.T) {
	r := made(t, 1, 1)
	r.Tick()
	for _, x := range []struct {
		v    view.View
		want view.Command
	}{
		{first(1), none},
		{of(view.Member{Node: 5, Life: 2, Ready: true}, view.Member{Node: 3, Life: 4}, view.Member{Node: 4, Life: 6}), remove(3, 4)},
		{of(view.Member{Node: 5, Life: 2}, view.Member{Node: 3, Life: 4}), none},
		{of(view.Member{Node: 5, Life: 2}, view.Member{Node: 3, Life: 4, Ready: true}), remove(5, 2)},
		{view.View{Epoch: last, Members: first(3).Members}, none},
		{view.View{Epoch: last - 1, Members: first(3).Members}, remove(1, 1)},
		{of(view.Member{Node: 9, Life: 255, Ready: true}, view.Member{Node: 0, Life: 0, Ready: true}), remove(9, 255)},
		{of(view.Member{Node: 0, Ready: true}, view.Member{Node: 9, Life: 255, Ready: true}), remove(0, 0)},
	} {
		wants(t, r, x.v, x.want)
	}
}

// P15.2: a number that no node has can be in a view and be granted a lease; then it is removed no sooner than a node would be.
func TestGrantedOfNoNode(t *testing.T) {
	for _, node := range []uint8{0, 9, 128, 255} {
		v := of(view.Member{Node: node, Life: 1, Ready: true}, view.Member{Node: 1, Life: 1, Ready: true})
		r := made(t, 1, 5)
		ticks(r, 7)
		wants(t, r, v, remove(node, 1))
		r.Granted(grant(node, 1, 7, 1))
		wants(t, r, v, remove(1, 1))
		r.Granted(grant(1, 1, 7, 1))
		after(t, r, v, 5, none, remove(node, 1))
		r.Missed()
		after(t, r, v, 5, none, remove(node, 1))
	}
}

// P15.2: of several members that can be removed, the first one in the order of the view is.
func TestRemoveInOrder(t *testing.T) {
	r := made(t, 3, 1)
	ticks(r, 2)
	v := of(view.Member{Node: 6, Life: 1, Ready: true}, view.Member{Node: 2, Life: 2, Ready: true}, view.Member{Node: 4, Life: 1, Ready: true}, view.Member{Node: 1, Life: 1})
	r.Hear(Word{Node: 6, Life: 1})
	r.Tick()
	wants(t, r, v, remove(2, 2))
	r.Hear(Word{Node: 6, Life: 2})
	wants(t, r, v, remove(6, 1))
	r.Granted(grant(6, 1, 1, 1))
	r.Granted(grant(2, 1, 1, 1))
	wants(t, r, v, remove(4, 1))
	r.Hear(Word{Node: 4, Life: 1})
	wants(t, r, v, remove(1, 1))
}

// P15.2: a node that is not a member is added as long as its last word is not older than suspect ticks, whatever else the word says.
func TestAdd(t *testing.T) {
	for _, suspect := range []int{1, 2, 10, 256, 999, 1000} {
		for _, w := range []Word{{Node: 8, Life: 1}, {Node: 8, Life: 1, Epoch: 7, Req: 9, Complete: true}, {Node: 8, Life: api.MaxLife, Epoch: last, Req: last}} {
			r := made(t, suspect, 1000)
			for _, before := range []int{0, 1, 300} {
				v := open(view.Member{Node: 1, Life: 1, Ready: true}) // it can't be removed
				ticks(r, before)
				r.Hear(w)
				after(t, r, v, suspect+1, add(8, w.Life), none)
				ticks(r, 5)
				wants(t, r, v, none)
			}
		}
	}
}

// P15.2: a node is not added while it is a member, in whatever life, nor in a life that does not hold.
func TestAddThatDoesNotHold(t *testing.T) {
	r := made(t, 1000, 1000)
	r.Hear(Word{Node: 2, Life: 4})
	for life := range uint8(6) {
		wants(t, r, of(view.Member{Node: 2, Life: life, Ready: true}), none)
		want := none
		if life < 4 {
			want = add(2, 4)
		}
		wants(t, r, view.View{Lives: [api.MaxNodes]uint8{1: life}}, want)
	}
	wants(t, r, view.View{Lives: [api.MaxNodes]uint8{200, 3, 200, 200, 200, 200, 200, 200}}, add(2, 4))
	wants(t, r, view.View{Lives: [api.MaxNodes]uint8{1, 255}}, none)
	wants(t, r, view.View{Epoch: last}, none)
	wants(t, r, view.View{Epoch: last - 1}, add(2, 4))
	full := make([]view.Member, api.MaxNodes)
	for i := range full {
		full[i] = view.Member{Node: uint8(i) + 9, Life: 1}
	}
	wants(t, r, view.View{Members: full}, none)
	wants(t, r, view.View{Members: full[1:]}, add(2, 4))
}

// P15.2: of several nodes that can be added, the least one is, whichever was heard first.
func TestAddInOrder(t *testing.T) {
	r := made(t, 3, 1000)
	for node := uint8(8); node >= 1; node-- {
		r.Hear(Word{Node: node, Life: node})
		wants(t, r, view.View{}, add(node, node))
	}
	for node := uint8(1); node < 8; node++ {
		v := view.View{}
		for i := range node {
			v.Lives[i] = i + 1
		}
		wants(t, r, v, add(node+1, node+1))
	}
	ticks(r, 2)
	r.Hear(Word{Node: 5, Life: 5})
	r.Hear(Word{Node: 6, Life: 200})
	ticks(r, 2)
	wants(t, r, view.View{}, add(5, 5))
	wants(t, r, open(view.Member{Node: 5, Life: 1}), add(6, 200))
}

// P15.2: a member that is not ready is settled if its node's last word has its life, the epoch of the view, and Complete; however old the word is.
func TestSettle(t *testing.T) {
	v := of(view.Member{Node: 1, Life: 1, Ready: true}, view.Member{Node: 2, Life: 4})
	for _, x := range []struct {
		w    Word
		want view.Command
	}{
		{Word{Node: 2, Life: 4, Epoch: 7, Complete: true}, settle(2, 4)},
		{Word{Node: 2, Life: 4, Epoch: 7, Req: 3, Complete: true}, settle(2, 4)},
		{Word{Node: 2, Life: 4, Epoch: 7}, none},
		{Word{Node: 2, Life: 4, Epoch: 6, Complete: true}, none},
		{Word{Node: 2, Life: 4, Epoch: 8, Complete: true}, none},
		{Word{Node: 2, Life: 4, Epoch: 7 + 1<<16, Complete: true}, none},
		{Word{Node: 2, Life: 3, Epoch: 7, Complete: true}, none},
		{Word{Node: 2, Life: 5, Epoch: 7, Complete: true}, none},
		{Word{Node: 1, Life: 1, Epoch: 7, Complete: true}, none},
		{Word{Node: 1, Life: 4, Epoch: 7, Complete: true}, none},
		{Word{Node: 3, Life: 4, Epoch: 7, Complete: true}, none},
	} {
		r := made(t, 2, 1000)
		r.Hear(x.w)
		wants(t, r, v, x.want)
		r.Granted(grant(x.w.Node, x.w.Life, x.w.Epoch, x.w.Req))
		wants(t, r, v, x.want)
		ticks(r, 900)
		wants(t, r, v, x.want)
	}
}

// P15.2: of several members that can be settled, the first one in the order of the view is.
func TestSettleInOrder(t *testing.T) {
	r := made(t, 1000, 1000)
	l := []view.Member{{Node: 4, Life: 2}, {Node: 1, Life: 1, Ready: true}, {Node: 3, Life: 1}, {Node: 2, Life: 9}}
	for i := len(l) - 1; i >= 0; i-- {
		r.Hear(Word{Node: l[i].Node, Life: l[i].Life, Epoch: 7, Complete: true})
		if i != 1 {
			wants(t, r, of(l...), settle(l[i].Node, l[i].Life))
		}
	}
	r.Hear(Word{Node: 4, Life: 2, Epoch: 7})
	wants(t, r, of(l...), settle(3, 1))
	l[2].Ready = true
	wants(t, r, of(l...), settle(2, 9))
	l[3].Ready = true
	wants(t, r, of(l...), none)
}

// P15.2: a lease is granted to a member, ready or not, whose node's last word has its life, the epoch of the view, and a request other than 0; however old the word is.
func TestGrant(t *testing.T) {
	for _, ready := range []bool{true, false} {
		v := of(view.Member{Node: 1, Life: 1, Ready: true}, view.Member{Node: 2, Life: 4, Ready: ready})
		for _, x := range []struct {
			w    Word
			want view.Command
		}{
			{Word{Node: 2, Life: 4, Epoch: 7, Req: 1}, grant(2, 4, 7, 1)},
			{Word{Node: 2, Life: 4, Epoch: 7, Req: last}, grant(2, 4, 7, last)},
			{Word{Node: 1, Life: 1, Epoch: 7, Req: 9, Complete: true}, grant(1, 1, 7, 9)},
			{Word{Node: 2, Life: 4, Epoch: 7, Req: 0}, none},
			{Word{Node: 2, Life: 4, Epoch: 6, Req: 1}, none},
			{Word{Node: 2, Life: 4, Epoch: 8, Req: 1}, none},
			{Word{Node: 2, Life: 4, Epoch: 0, Req: 1}, none},
			{Word{Node: 2, Life: 3, Epoch: 7, Req: 1}, none},
			{Word{Node: 2, Life: 5, Epoch: 7, Req: 1}, none},
			{Word{Node: 1, Life: 4, Epoch: 7, Req: 1}, none},
		} {
			r := made(t, 2, 1000)
			r.Hear(x.w)
			wants(t, r, v, x.want)
			ticks(r, 900)
			wants(t, r, v, x.want)
		}
	}
}

// P15.2: a lease is not granted again if it was the last one of the node: one for another request, life or epoch is.
func TestGrantAgain(t *testing.T) {
	v := of(view.Member{Node: 2, Life: 4, Ready: true})
	asked := grant(2, 4, 7, 5)
	for _, x := range []struct {
		granted []view.Command
		want    view.Command
	}{
		{nil, asked},
		{[]view.Command{asked}, none},
		{[]view.Command{asked, asked}, none},
		{[]view.Command{grant(2, 4, 7, 4)}, asked},
		{[]view.Command{grant(2, 4, 7, 6)}, asked},
		{[]view.Command{grant(2, 4, 7, 0)}, asked},
		{[]view.Command{grant(2, 4, 6, 5)}, asked},
		{[]view.Command{grant(2, 4, 8, 5)}, asked},
		{[]view.Command{grant(2, 3, 7, 5)}, asked},
		{[]view.Command{grant(2, 5, 7, 5)}, asked},
		{[]view.Command{grant(1, 4, 7, 5), grant(3, 4, 7, 5), grant(0, 4, 7, 5), grant(10, 4, 7, 5)}, asked},
		{[]view.Command{grant(2, 4, 7, 4), asked}, none},
		{[]view.Command{asked, grant(2, 4, 7, 4)}, asked},
		{[]view.Command{asked, grant(1, 4, 7, 6)}, none},
	} {
		for _, late := range []bool{false, true} { // the word may come before or after what was granted
			r := made(t, 1000, 1000)
			w := Word{Node: 2, Life: 4, Epoch: 7, Req: 5}
			if !late {
				r.Hear(w)
			}
			for _, c := range x.granted {
				r.Granted(c)
			}
			if late {
				r.Hear(w)
			}
			wants(t, r, v, x.want)
			r.Hear(Word{Node: 2, Life: 4, Epoch: 7, Req: 77})
			wants(t, r, v, grant(2, 4, 7, 77))
		}
	}
}

// P15.2: of several members that can be granted a lease, the first one in the order of the view is; one that has its lease is passed over.
func TestGrantInOrder(t *testing.T) {
	r := made(t, 1000, 1000)
	v := of(view.Member{Node: 3, Life: 2}, view.Member{Node: 7, Life: 1, Ready: true}, view.Member{Node: 1, Life: 6, Ready: true}, view.Member{Node: 2, Life: 1, Ready: true})
	for _, m := range slices.Backward(v.Members) {
		r.Hear(Word{Node: m.Node, Life: m.Life, Epoch: 7, Req: 40 + uint32(m.Node)})
		wants(t, r, v, grant(m.Node, m.Life, 7, 40+uint32(m.Node)))
	}
	for _, m := range v.Members {
		wants(t, r, v, grant(m.Node, m.Life, 7, 40+uint32(m.Node)))
		r.Granted(grant(m.Node, m.Life, 7, 40+uint32(m.Node)))
	}
	wants(t, r, v, none)
	r.Hear(Word{Node: 1, Life: 6, Epoch: 7, Req: 3})
	wants(t, r, v, grant(1, 6, 7, 3))
}

// P15.2: a Remove is wanted before an Add, an Add before a Settle, and a Settle before a Grant, whichever member or node they are for.
func TestKindsInOrder(t *testing.T) {
	r := made(t, 10, 5)
	v := open(view.Member{Node: 2, Life: 1, Ready: true}, view.Member{Node: 3, Life: 1}, view.Member{Node: 4, Life: 1, Ready: true})
	r.Hear(Word{Node: 2, Life: 1, Epoch: 7, Req: 9})
	wants(t, r, v, grant(2, 1, 7, 9))
	r.Hear(Word{Node: 3, Life: 1, Epoch: 7, Complete: true})
	wants(t, r, v, settle(3, 1))
	r.Hear(Word{Node: 8, Life: 1})
	wants(t, r, v, add(8, 1))
	r.Hear(Word{Node: 4, Life: 2})
	after(t, r, v, 5, add(8, 1), remove(4, 1))
	r.Hear(Word{Node: 1, Life: 1})
	wants(t, r, v, remove(4, 1))
	v, _ = v.Apply(remove(4, 1))
	wants(t, r, v, add(1, 1))
	v, _ = v.Apply(add(1, 1))
	wants(t, r, v, add(4, 2))
	v, _ = v.Apply(add(4, 2))
	wants(t, r, v, add(8, 1))
	v, _ = v.Apply(add(8, 1))
	wants(t, r, v, none) // the words are of an earlier epoch now
	r.Hear(Word{Node: 2, Life: 1, Epoch: v.Epoch, Req: 9})
	wants(t, r, v, grant(2, 1, v.Epoch, 9))
	r.Hear(Word{Node: 3, Life: 1, Epoch: v.Epoch, Complete: true})
	wants(t, r, v, settle(3, 1))
}

// P15.2: a member that is lost but can't be removed yet is granted its lease all the same.
func TestGrantToALostMember(t *testing.T) {
	r := made(t, 1, 4)
	r.Hear(Word{Node: 2, Life: 1, Epoch: 1, Req: 3})
	after(t, r, first(2), 4, grant(2, 1, 1, 3), remove(1, 1))
	r.Granted(grant(1, 1, 1, 1))
	wants(t, r, first(2), remove(2, 1))
	r.Granted(grant(2, 1, 1, 2))
	wants(t, r, first(2), grant(2, 1, 1, 3))
	wants(t, r, first(1), none)
}

// Want does not change the view, nor the spare room of its lists.
func TestWantChangesNoView(t *testing.T) {
	r := made(t, 1, 1)
	ticks(r, 5)
	r.Hear(Word{Node: 8, Life: 1, Epoch: 7, Req: 1, Complete: true})
	l := make([]view.Member, 3, 12)
	copy(l, first(3).Members)
	before := slices.Clone(l[:12])
	wants(t, r, view.View{Epoch: 7, Members: l}, remove(1, 1))
	wants(t, r, view.View{Epoch: 7, Members: l[:1]}, add(8, 1))
	wants(t, r, view.View{Epoch: last, Members: l}, none)
	if !slices.Equal(l[:12], before) {
		t.Errorf("%v, want %v", l[:12], before)
	}
}

// Two rosters share nothing.
func TestTwoRosters(t *testing.T) {
	a, b := made(t, 10, 10), made(t, 10, 10)
	a.Hear(Word{Node: 1, Life: 1, Epoch: 1, Req: 5})
	wants(t, b, first(2), none)
	b.Hear(Word{Node: 1, Life: 1, Epoch: 1, Req: 5})
	b.Granted(grant(1, 1, 1, 5))
	wants(t, a, first(2), grant(1, 1, 1, 5))
	wants(t, b, first(2), none)
	ticks(b, 10)
	b.Missed()
	wants(t, a, first(2), grant(1, 1, 1, 5))
	ticks(a, 10)
	wants(t, a, first(2), remove(1, 1))
}

// event is something that a roster was told, at a time.
type event struct {
	at      int
	word    *Word
	granted *view.Command // a Missed has neither
}

// model is a roster in the words of the chapter: it keeps all that it was told, and looks for what it needs.
type model struct {
	suspect, wait, ticks int
	told                 []event
}

// word returns the last word of a node that counts and its time, and whether there is one.
func (m *model) word(node uint8) (Word, int, bool) {
	var w Word
	at, found := 0, false
	for _, e := range m.told {
		x := e.word
		if x == nil || x.Node != node || x.Node == 0 || x.Node > api.MaxNodes || x.Life == 0 || x.Life > api.MaxLife {
			continue
		}
		if !found || x.Life >= w.Life {
			w, at, found = *x, e.at, true
		}
	}
	return w, at, found
}

// granted returns the latest time at which a lease may have been granted to a node.
func (m *model) granted(node uint8) int {
	for _, e := range slices.Backward(m.told) {
		if e.word == nil && (e.granted == nil || e.granted.Node == node && e.granted.Kind == view.Grant) {
			return e.at
		}
	}
	return 0
}

// known reports whether a Grant is the last lease of its node.
func (m *model) known(c view.Command) bool {
	for _, e := range slices.Backward(m.told) {
		if e.granted != nil && e.granted.Kind == view.Grant && e.granted.Node == c.Node {
			return *e.granted == c
		}
	}
	return false
}

func (m *model) lost(x view.Member) bool {
	w, at, found := m.word(x.Node)
	if !found || w.Life < x.Life {
		at = 0
	}
	return found && w.Life > x.Life || m.ticks-at >= m.suspect
}

// want returns all commands that can be wanted, in the order of the chapter.
func (m *model) want(v view.View) []view.Command {
	var removes, adds, settles, grants []view.Command
	for _, x := range v.Members {
		c := remove(x.Node, x.Life)
		if _, holds := v.Apply(c); holds && m.lost(x) && m.ticks >= m.granted(x.Node)+m.wait {
			removes = append(removes, c)
		}
		w, _, found := m.word(x.Node)
		if !found || w.Life != x.Life || w.Epoch != v.Epoch {
			continue
		}
		if !x.Ready && w.Complete {
			settles = append(settles, settle(x.Node, x.Life))
		}
		if c := grant(x.Node, x.Life, v.Epoch, w.Req); w.Req > 0 && !m.known(c) {
			grants = append(grants, c)
		}
	}
	for node := range uint8(api.MaxNodes + 1) {
		w, at, found := m.word(node)
		if _, member := v.Find(node); !found || member || m.ticks > at+m.suspect {
			continue
		}
		if _, holds := v.Apply(add(node, w.Life)); holds {
			adds = append(adds, add(node, w.Life))
		}
	}
	return slices.Concat(removes, adds, settles, grants)
}

// some returns a word that often fits a view, and sometimes none.
func some(r *rand.Rand, v view.View) Word {
	w := Word{Node: uint8(r.Intn(10)), Life: uint8(r.Intn(6)), Epoch: v.Epoch + uint32(r.Intn(5)/4), Req: uint32(r.Intn(4)), Complete: r.Intn(2) == 0}
	if len(v.Members) > 0 && r.Intn(3) > 0 {
		m := v.Members[r.Intn(len(v.Members))]
		w.Node, w.Life = m.Node, m.Life+uint8(r.Intn(12)/11)
	}
	return w
}

// P15.1, P15.2: whatever a roster is told, and whatever view it is asked about, it wants what the words of the chapter say.
func TestAgreesWithTheWords(t *testing.T) {
	counts := map[uint8]int{}
	nothing := 0
	for seed := range 600 {
		r := rand.New(rand.NewSource(int64(seed)))
		m := &model{suspect: r.Intn(12) + 1, wait: r.Intn(12) + 1}
		x := made(t, m.suspect, m.wait)
		v := first(r.Intn(api.MaxNodes) + 1)
		for range 120 {
			switch n := r.Intn(100); {
			case n < 40:
				x.Tick()
				m.ticks++
			case n < 75:
				w := some(r, v)
				x.Hear(w)
				m.told = append(m.told, event{at: m.ticks, word: &w})
			case n < 85:
				c := grant(uint8(r.Intn(10)), uint8(r.Intn(6)), v.Epoch, uint32(r.Intn(4)))
				c.Kind -= uint8(r.Intn(5) / 4)
				x.Granted(c)
				m.told = append(m.told, event{at: m.ticks, granted: &c})
			case n < 87:
				x.Missed()
				m.told = append(m.told, event{at: m.ticks})
			}
			want := none
			if l := m.want(v); len(l) > 0 {
				want = l[0]
				counts[want.Kind]++
			} else {
				nothing++
			}
			wants(t, x, v, want)
			if t.Failed() {
				t.Fatalf("seed %d: %+v", seed, m)
			}
			if want != none && r.Intn(3) > 0 {
				v, _ = v.Apply(want)
				x.Granted(want)
				m.told = append(m.told, event{at: m.ticks, granted: &want})
			}
		}
	}
	for kind := uint8(view.Add); kind <= view.Grant; kind++ {
		if counts[kind] < 2000 {
			t.Errorf("%d commands of the kind %d: too few to tell", counts[kind], kind)
		}
	}
	if nothing < 2000 {
		t.Errorf("%d times nothing: too few to tell", nothing)
	}
}
