package view

import (
	"math"
	"math/rand"
	"slices"
	"testing"

	"talaria/api"
)

// The types have the fields of the chapter, and only these: otherwise this does not compile.
var (
	_ = struct {
		Node, Life uint8
		Ready      bool
	}(Member{})
	_ = struct {
		Kind, Node, Life uint8
		Epoch, Req       uint32
	}(Command{})
	_ = struct {
		Epoch   uint32
		Members []Member
		Lives   [api.MaxNodes]uint8
	}(View{})
)

const last = math.MaxUint32 // the epoch that none follows

// three is a view of three nodes of which one has come back and is not ready.
func three() View {
	return View{
		Epoch:   7,
		Members: []Member{{1, 1, true}, {3, 1, true}, {2, 4, false}},
		Lives:   [api.MaxNodes]uint8{1, 4, 1},
	}
}

// views are views of all kinds, among them some that no store can have.
func views() []View {
	l := []View{
		{},
		{Members: []Member{}},
		three(),
		{Epoch: last, Members: three().Members, Lives: three().Lives},
		{Epoch: last - 1, Members: three().Members, Lives: three().Lives},
		{Epoch: 1, Members: []Member{{5, 200, true}}, Lives: [api.MaxNodes]uint8{4: 200}},
		{Epoch: 1, Members: []Member{{5, 200, false}}, Lives: [api.MaxNodes]uint8{4: 200}},
		{Epoch: 9, Members: []Member{{0, 0, true}, {255, 255, true}, {9, 1, false}}},
		{Epoch: 9, Members: []Member{{2, 1, true}, {2, 2, false}, {3, 1, true}, {2, 2, true}}},
		{Epoch: 9, Members: make([]Member, 20)},
		{Epoch: 2, Lives: [api.MaxNodes]uint8{255, 201, 200, 199, 1, 0, 0, 0}},
	}
	for n := 1; n <= api.MaxNodes; n++ {
		v, _ := First(n)
		l = append(l, v)
	}
	return l
}

// The kinds have the numbers of the chapter.
func TestKinds(t *testing.T) {
	for i, kind := range []int{Noop, Add, Remove, Settle, Grant} {
		if kind != i {
			t.Errorf("kind %d, want %d", kind, i)
		}
	}
}

func same(t *testing.T, got, want View) {
	t.Helper()
	if got.Epoch != want.Epoch || !slices.Equal(got.Members, want.Members) || got.Lives != want.Lives {
		t.Errorf("%v, want %v", got, want)
	}
}

// P5.1: the first view contains the nodes in order, ready in their first life.
func TestFirst(t *testing.T) {
	v, e := First(3)
	if e != api.OK {
		t.Error(e)
	}
	same(t, v, View{Epoch: 1, Members: []Member{{1, 1, true}, {2, 1, true}, {3, 1, true}}, Lives: [api.MaxNodes]uint8{1, 1, 1}})
	for n := 1; n <= api.MaxNodes; n++ {
		v, e := First(n)
		if e != api.OK || v.Epoch != 1 || len(v.Members) != n {
			t.Fatalf("First(%d): %v %v", n, v, e)
		}
		for i, m := range v.Members {
			if m != (Member{Node: uint8(i + 1), Life: 1, Ready: true}) {
				t.Errorf("First(%d): member %v", n, m)
			}
		}
		for i, life := range v.Lives {
			if (life == 1) != (i < n) || life > 1 {
				t.Errorf("First(%d): lives %v", n, v.Lives)
			}
		}
	}
}

// P5.1: there is no first view of no nodes, or of more than MaxNodes.
func TestFirstOfTooFewOrTooMany(t *testing.T) {
	for _, n := range []int{math.MinInt, -256, -3, -1, 0, api.MaxNodes + 1, 100, 257, 1<<32 + 1, math.MaxInt} {
		v, e := First(n)
		if e != api.ErrArg {
			t.Errorf("First(%d): error %v", n, e)
		}
		same(t, v, View{})
	}
}

// P5.1: each First is a list of its own.
func TestFirstIsNew(t *testing.T) {
	v, _ := First(2)
	v.Members[0] = Member{}
	v, _ = First(2)
	same(t, v, View{Epoch: 1, Members: []Member{{1, 1, true}, {2, 1, true}}, Lives: [api.MaxNodes]uint8{1, 1}})
}

// P5.1: Find returns the first member with a node, whatever its life is and whether or not it is ready.
func TestFind(t *testing.T) {
	twice := View{Members: []Member{{4, 1, false}, {2, 3, true}, {2, 5, false}, {4, 1, true}}}
	for _, x := range []struct {
		v    View
		node uint8
		want Member
		ok   bool
	}{
		{three(), 1, Member{1, 1, true}, true},
		{three(), 2, Member{2, 4, false}, true},
		{three(), 3, Member{3, 1, true}, true},
		{three(), 0, Member{}, false},
		{three(), 4, Member{}, false},
		{three(), 255, Member{}, false},
		{twice, 2, Member{2, 3, true}, true},
		{twice, 4, Member{4, 1, false}, true},
		{View{}, 0, Member{}, false},
		{View{}, 1, Member{}, false},
		{View{Members: []Member{{0, 9, true}}}, 0, Member{0, 9, true}, true},
	} {
		if m, ok := x.v.Find(x.node); m != x.want || ok != x.ok {
			t.Errorf("%v.Find(%d): %v %v, want %v %v", x.v, x.node, m, ok, x.want, x.ok)
		}
	}
}

// P5.1: Has needs one member with both the node and the life, ready or not.
func TestHas(t *testing.T) {
	for node := range uint8(10) {
		for life := range uint8(10) {
			want := node == 1 && life == 1 || node == 3 && life == 1 || node == 2 && life == 4
			if three().Has(node, life) != want {
				t.Errorf("Has(%d, %d): %v", node, life, !want)
			}
			if (View{Lives: [api.MaxNodes]uint8{1, 1, 1, 1, 1}}).Has(node, life) {
				t.Errorf("Has(%d, %d) without members", node, life)
			}
		}
	}
	twice := View{Members: []Member{{2, 3, true}, {2, 5, false}}}
	if !twice.Has(2, 3) || !twice.Has(2, 5) || twice.Has(2, 4) {
		t.Error("two lives of a node")
	}
}

// P5.1: Others are all nodes but one, in the order of the chain; all of them for a node that is no member.
func TestOthers(t *testing.T) {
	for _, x := range []struct {
		v    View
		node uint8
		want []uint8
	}{
		{three(), 1, []uint8{3, 2}},
		{three(), 3, []uint8{1, 2}},
		{three(), 2, []uint8{1, 3}},
		{three(), 4, []uint8{1, 3, 2}},
		{three(), 0, []uint8{1, 3, 2}},
		{View{Members: []Member{{6, 1, true}}}, 6, nil},
		{View{Members: []Member{{6, 1, false}}}, 7, []uint8{6}},
		{View{}, 1, nil},
	} {
		if l := x.v.Others(x.node); !slices.Equal(l, x.want) {
			t.Errorf("%v.Others(%d): %v, want %v", x.v, x.node, l, x.want)
		}
	}
}

// P5.1: Ends are the neighbours in the chain, 0 beyond its ends, and 0 and 0 for a node that is no member.
func TestEnds(t *testing.T) {
	for _, x := range []struct {
		v                   View
		node, before, after uint8
	}{
		{three(), 1, 0, 3},
		{three(), 3, 1, 2},
		{three(), 2, 3, 0},
		{three(), 4, 0, 0},
		{three(), 0, 0, 0},
		{three(), 255, 0, 0},
		{View{Members: []Member{{6, 1, true}}}, 6, 0, 0},
		{View{Members: []Member{{6, 1, true}}}, 1, 0, 0},
		{View{Members: []Member{{6, 1, true}, {1, 1, false}}}, 6, 0, 1},
		{View{Members: []Member{{6, 1, true}, {1, 1, false}}}, 1, 6, 0},
		{View{}, 0, 0, 0},
		{View{}, 1, 0, 0},
	} {
		if b, a := x.v.Ends(x.node); b != x.before || a != x.after {
			t.Errorf("%v.Ends(%d): %d %d, want %d %d", x.v, x.node, b, a, x.before, x.after)
		}
	}
}

// P5.1: Ends of all nodes follow the chain from its head to its tail.
func TestEndsFollowTheChain(t *testing.T) {
	v, _ := First(api.MaxNodes)
	slices.Reverse(v.Members)
	for node := uint8(1); node <= api.MaxNodes; node++ {
		after := node - 1
		before := (node + 1) % (api.MaxNodes + 1)
		if b, a := v.Ends(node); b != before || a != after {
			t.Errorf("Ends(%d): %d %d, want %d %d", node, b, a, before, after)
		}
	}
}

// P5.1: Ready counts the ready members.
func TestReady(t *testing.T) {
	if n := three().Ready(); n != 2 {
		t.Errorf("%d are ready, want 2", n)
	}
	if n := (View{}).Ready(); n != 0 {
		t.Errorf("%d of none are ready", n)
	}
	for n := 1; n <= api.MaxNodes; n++ {
		v, _ := First(n)
		for i := range n {
			if v.Ready() != n-i {
				t.Errorf("%d of %d are ready, want %d", v.Ready(), n, n-i)
			}
			v.Members[(i+1)%n].Ready = false
		}
		if v.Ready() != 0 {
			t.Errorf("%d of %d are ready, want 0", v.Ready(), n)
		}
	}
}

// P5.1: Same compares the epochs, the members in order, and the Lives.
func TestSame(t *testing.T) {
	for i, a := range views() {
		for j, b := range views() {
			empty := i < 2 && j < 2 // a list that is nil, and one that is not
			if Same(a, b) != (i == j || empty) {
				t.Errorf("Same(%v, %v): %v", a, b, Same(a, b))
			}
		}
	}
	for name, change := range map[string]func(v *View){
		"epoch":       func(v *View) { v.Epoch++ },
		"node":        func(v *View) { v.Members[1].Node = 4 },
		"life":        func(v *View) { v.Members[1].Life = 9 },
		"ready":       func(v *View) { v.Members[2].Ready = true },
		"order":       func(v *View) { v.Members[0], v.Members[1] = v.Members[1], v.Members[0] },
		"one less":    func(v *View) { v.Members = v.Members[:2] },
		"one more":    func(v *View) { v.Members = append(v.Members, Member{}) },
		"none":        func(v *View) { v.Members = nil },
		"first lives": func(v *View) { v.Lives[0] = 2 },
		"last lives":  func(v *View) { v.Lives[api.MaxNodes-1] = 2 },
	} {
		v := three()
		change(&v)
		if Same(v, three()) || Same(three(), v) {
			t.Errorf("another %s, and the same", name)
		}
	}
}

// holds checks that c holds for v, and what it yields.
func holds(t *testing.T, v View, c Command, want View) {
	t.Helper()
	got, ok := v.Apply(c)
	if !ok {
		t.Errorf("%+v of %v does not hold", c, v)
	}
	same(t, got, want)
}

// fails checks that c does not hold for v, and changes nothing.
func fails(t *testing.T, v View, c Command) {
	t.Helper()
	got, ok := v.Apply(c)
	if ok {
		t.Errorf("%+v of %v holds", c, v)
	}
	same(t, got, v)
}

// P5.2: a Noop holds for every view, whatever its fields are, and changes nothing.
func TestNoop(t *testing.T) {
	for _, v := range views() {
		holds(t, v, Command{}, v)
		holds(t, v, Command{Kind: Noop, Node: 1, Life: 1, Epoch: v.Epoch, Req: 3}, v)
		holds(t, v, Command{Kind: Noop, Node: 255, Life: 255, Epoch: 5, Req: last}, v)
	}
}

// P5.2: an Add appends a member that is not ready, records its life, and increments the epoch. Its Epoch and Req do not matter.
func TestAdd(t *testing.T) {
	v := three()
	for _, c := range []Command{{Kind: Add, Node: 8, Life: 1}, {Kind: Add, Node: 8, Life: 1, Epoch: 99, Req: 5}} {
		holds(t, v, c, View{
			Epoch:   8,
			Members: []Member{{1, 1, true}, {3, 1, true}, {2, 4, false}, {8, 1, false}},
			Lives:   [api.MaxNodes]uint8{1, 4, 1, 0, 0, 0, 0, 1},
		})
	}
	holds(t, View{}, Command{Kind: Add, Node: 1, Life: api.MaxLife}, View{
		Epoch: 1, Members: []Member{{1, api.MaxLife, false}}, Lives: [api.MaxNodes]uint8{api.MaxLife},
	})
	for life := 1; life <= api.MaxLife; life++ {
		holds(t, View{}, Command{Kind: Add, Node: 4, Life: uint8(life)}, View{
			Epoch: 1, Members: []Member{{4, uint8(life), false}}, Lives: [api.MaxNodes]uint8{3: uint8(life)},
		})
	}
}

// P5.2: an Add needs a node and a life in range.
func TestAddOutOfRange(t *testing.T) {
	for _, v := range []View{{}, three()} {
		for n := range 256 {
			if n == 0 || n > api.MaxNodes {
				fails(t, v, Command{Kind: Add, Node: uint8(n), Life: 100})
			}
			if n == 0 || n > api.MaxLife {
				fails(t, v, Command{Kind: Add, Node: 4, Life: uint8(n)})
			}
		}
	}
}

// P5.2: no node is added while it is a member, in whatever life.
func TestAddOfAMember(t *testing.T) {
	for _, m := range three().Members {
		for life := range 256 {
			fails(t, three(), Command{Kind: Add, Node: m.Node, Life: uint8(life)})
		}
	}
	fails(t, View{Members: []Member{{6, 9, true}}}, Command{Kind: Add, Node: 6, Life: 10})
}

// P5.2: a life that has been a member, or that is less than one, is not added.
func TestAddOfAUsedLife(t *testing.T) {
	v := View{Epoch: 3, Members: []Member{{1, 1, true}}, Lives: [api.MaxNodes]uint8{1, 5, 0, 0, 0, 0, 0, 200}}
	for life := uint8(1); life <= 5; life++ {
		fails(t, v, Command{Kind: Add, Node: 2, Life: life})
	}
	holds(t, v, Command{Kind: Add, Node: 2, Life: 6}, View{
		Epoch: 4, Members: []Member{{1, 1, true}, {2, 6, false}}, Lives: [api.MaxNodes]uint8{1, 6, 0, 0, 0, 0, 0, 200},
	})
	for life := range 256 {
		fails(t, v, Command{Kind: Add, Node: 8, Life: uint8(life)})
	}
}

// P5.2: a view with MaxNodes members is full; below that there is room.
func TestAddToAFullView(t *testing.T) {
	v, _ := First(api.MaxNodes)
	v.Members[4].Node = 0 // so that node 5 is no member
	fails(t, v, Command{Kind: Add, Node: 5, Life: 2})
	v.Members = append(v.Members, Member{})
	fails(t, v, Command{Kind: Add, Node: 5, Life: 2})
	v, _ = First(api.MaxNodes - 1)
	want, _ := First(api.MaxNodes)
	want.Epoch, want.Members[api.MaxNodes-1].Ready = 2, false
	holds(t, v, Command{Kind: Add, Node: api.MaxNodes, Life: 1}, want)
	fails(t, want, Command{Kind: Add, Node: api.MaxNodes, Life: 2})
}

// P5.2: the example of the chapter; a Remove keeps the order of the others and the Lives.
func TestRemove(t *testing.T) {
	v, _ := First(3)
	lives := [api.MaxNodes]uint8{1, 1, 1}
	for _, c := range []Command{{Kind: Remove, Node: 2, Life: 1}, {Kind: Remove, Node: 2, Life: 1, Epoch: 99, Req: 5}} {
		holds(t, v, c, View{Epoch: 2, Members: []Member{{1, 1, true}, {3, 1, true}}, Lives: lives})
	}
	holds(t, v, Command{Kind: Remove, Node: 1, Life: 1}, View{Epoch: 2, Members: []Member{{2, 1, true}, {3, 1, true}}, Lives: lives})
	holds(t, v, Command{Kind: Remove, Node: 3, Life: 1}, View{Epoch: 2, Members: []Member{{1, 1, true}, {2, 1, true}}, Lives: lives})
	holds(t, three(), Command{Kind: Remove, Node: 2, Life: 4}, View{Epoch: 8, Members: []Member{{1, 1, true}, {3, 1, true}}, Lives: three().Lives})
}

// P5.2: a Remove needs a member with that node in that life.
func TestRemoveOfNoMember(t *testing.T) {
	for _, c := range []Command{
		{}, {Node: 1}, {Node: 1, Life: 2}, {Node: 2, Life: 1}, {Node: 2, Life: 3}, {Node: 2, Life: 5}, {Node: 3, Life: 4},
		{Node: 4, Life: 1}, {Node: 4}, {Life: 1}, {Node: 255, Life: 255},
	} {
		c.Kind = Remove
		fails(t, three(), c)
		fails(t, View{}, c)
	}
}

// P5.2: the last ready member is not removed; one that is not ready is, if another one is ready.
func TestRemoveOfTheLastReady(t *testing.T) {
	for n := 1; n <= 4; n++ {
		v, _ := First(n)
		for i := range n {
			for j := range n {
				v.Members[j].Ready = i == j
			}
			for _, m := range v.Members {
				c := Command{Kind: Remove, Node: m.Node, Life: m.Life}
				if m.Ready {
					fails(t, v, c)
					continue
				}
				others := slices.DeleteFunc(slices.Clone(v.Members), func(o Member) bool { return o == m })
				holds(t, v, c, View{Epoch: 2, Members: others, Lives: v.Lives})
			}
		}
		for i := range n {
			v.Members[i].Ready = false
		}
		for _, m := range v.Members {
			fails(t, v, Command{Kind: Remove, Node: m.Node, Life: m.Life})
		}
	}
}

// P5.2: a Settle makes a member ready, also one that is ready, and leaves the epoch.
func TestSettle(t *testing.T) {
	want := three()
	want.Members[2].Ready = true
	holds(t, three(), Command{Kind: Settle, Node: 2, Life: 4}, want)
	holds(t, three(), Command{Kind: Settle, Node: 2, Life: 4, Epoch: 99, Req: 5}, want)
	holds(t, three(), Command{Kind: Settle, Node: 1, Life: 1}, three())
	holds(t, View{Members: []Member{{5, 2, false}}}, Command{Kind: Settle, Node: 5, Life: 2}, View{Members: []Member{{5, 2, true}}})
	for _, c := range []Command{{Node: 2}, {Node: 2, Life: 3}, {Node: 2, Life: 5}, {Node: 4, Life: 1}, {Node: 1, Life: 4}, {}, {Node: 255, Life: 255}} {
		c.Kind = Settle
		fails(t, three(), c)
		fails(t, View{}, c)
	}
}

// P5.2: a Grant needs a member and the epoch of the view, and changes nothing.
func TestGrant(t *testing.T) {
	for _, m := range three().Members { // ready or not
		for _, req := range []uint32{0, 1, last} {
			c := Command{Kind: Grant, Node: m.Node, Life: m.Life, Epoch: 7, Req: req}
			holds(t, three(), c, three())
			for _, epoch := range []uint32{0, 6, 8, 7 + 1<<8, 7 + 1<<16, last} {
				c.Epoch = epoch
				fails(t, three(), c)
			}
		}
		fails(t, three(), Command{Kind: Grant, Node: m.Node, Life: m.Life + 1, Epoch: 7})
		fails(t, three(), Command{Kind: Grant, Node: m.Node, Life: m.Life - 1, Epoch: 7})
		fails(t, three(), Command{Kind: Grant, Node: m.Node + 3, Life: m.Life, Epoch: 7})
	}
	fails(t, View{}, Command{Kind: Grant})
	fails(t, View{Epoch: 7}, Command{Kind: Grant, Node: 1, Life: 1, Epoch: 7})
}

// P5.2: commands of other kinds do not hold.
func TestUnknownCommands(t *testing.T) {
	for _, v := range views() {
		for kind := 5; kind < 256; kind++ {
			fails(t, v, Command{Kind: uint8(kind), Node: 1, Life: 1, Epoch: v.Epoch})
			fails(t, v, Command{Kind: uint8(kind), Node: 7, Life: 9, Epoch: v.Epoch})
			fails(t, v, Command{Kind: uint8(kind)})
		}
	}
}

// P5.2: in the last epoch, Add and Remove do not hold, while the others do; in the one before, all do.
func TestLastEpoch(t *testing.T) {
	add := Command{Kind: Add, Node: 4, Life: 1}
	remove := Command{Kind: Remove, Node: 3, Life: 1}
	v := three()
	v.Epoch = last
	fails(t, v, add)
	fails(t, v, remove)
	holds(t, v, Command{Kind: Noop}, v)
	holds(t, v, Command{Kind: Grant, Node: 1, Life: 1, Epoch: last}, v)
	want := three()
	want.Epoch, want.Members[2].Ready = last, true
	holds(t, v, Command{Kind: Settle, Node: 2, Life: 4}, want)

	v.Epoch = last - 1
	holds(t, v, add, View{
		Epoch: last, Members: append(three().Members, Member{4, 1, false}), Lives: [api.MaxNodes]uint8{1, 4, 1, 1},
	})
	holds(t, v, remove, View{Epoch: last, Members: []Member{{1, 1, true}, {2, 4, false}}, Lives: three().Lives})
}

// commands are commands of all kinds on nodes and lives of which some are members.
func commands(v View) []Command {
	var l []Command
	for kind := range uint8(6) {
		for _, node := range []uint8{0, 1, 2, 3, 4, 5, 8, 9, 255} {
			for _, life := range []uint8{0, 1, 2, 4, 5, 200, 201, 255} {
				l = append(l, Command{Kind: kind, Node: node, Life: life, Epoch: v.Epoch, Req: 3})
			}
		}
	}
	return l
}

// P5.2: neither the receiver nor the spare capacity of its list is modified, and the result has a list of its own.
func TestApplyKeepsItsReceiver(t *testing.T) {
	for _, v := range views() {
		roomy := append(slices.Clone(v.Members), Member{77, 77, true}, Member{78, 78, false})
		v.Members = roomy[:len(v.Members)]
		before := slices.Clone(roomy)
		for _, c := range commands(v) {
			old := v
			next, _ := v.Apply(c)
			if v.Epoch != old.Epoch || v.Lives != old.Lives || len(v.Members) != len(old.Members) || !slices.Equal(roomy, before) {
				t.Fatalf("%+v modified %v to %v", c, before, roomy)
			}
			spoil(next.Members)
			if !slices.Equal(roomy, before) {
				t.Fatalf("the result of %+v shares the list of %v", c, before)
			}
		}
	}
}

// spoil overwrites a list and its spare capacity.
func spoil(l []Member) {
	for i := range l[:cap(l)] {
		l[:cap(l)][i] = Member{99, 99, true}
	}
}

// The calls that only ask do not modify the view, and Others returns a list of its own.
func TestAskingKeepsTheView(t *testing.T) {
	for _, v := range views() {
		before := slices.Clone(v.Members)
		for node := range uint8(10) {
			v.Find(node)
			v.Has(node, 1)
			v.Ends(node)
			v.Ready()
			l := v.Others(node)
			clear(l)
			Same(v, v)
		}
		if !slices.Equal(v.Members, before) {
			t.Errorf("%v, was %v", v.Members, before)
		}
	}
}

// wanted is what the chapter says of a command on a view with distinct nodes.
func wanted(v View, c Command) (View, bool) {
	var kept []Member
	var found *Member
	ready, member := false, false
	for _, m := range v.Members {
		member = member || m.Node == c.Node
		if m.Node == c.Node && m.Life == c.Life {
			found = &m
			continue
		}
		kept = append(kept, m)
		ready = ready || m.Ready
	}
	next := View{Epoch: v.Epoch + 1, Lives: v.Lives}
	switch {
	case c.Kind == Noop:
		return v, true
	case c.Kind == Add && c.Node >= 1 && c.Node <= 8 && c.Life <= 200 && c.Life > v.Lives[c.Node-1] && !member && len(v.Members) < 8 && next.Epoch > 0:
		next.Members = append(kept, Member{c.Node, c.Life, false})
		next.Lives[c.Node-1] = c.Life
		return next, true
	case c.Kind == Remove && found != nil && ready && next.Epoch > 0:
		next.Members = kept
		return next, true
	case c.Kind == Settle && found != nil:
		next.Epoch--
		for _, m := range v.Members {
			next.Members = append(next.Members, Member{m.Node, m.Life, m.Ready || m == *found})
		}
		return next, true
	case c.Kind == Grant && found != nil && c.Epoch == v.Epoch:
		return v, true
	}
	return v, false
}

// P5.2: long sequences of commands, each applied to what the one before it left.
func TestApplyInSequence(t *testing.T) {
	random := rand.New(rand.NewSource(5))
	for run := range 200 {
		v, _ := First(1 + run%api.MaxNodes)
		if run%5 == 0 {
			v.Epoch = last - 10
		}
		for range 200 {
			c := Command{Kind: uint8(random.Intn(6)), Node: uint8(random.Intn(10)), Life: 1, Epoch: v.Epoch + uint32(random.Intn(2)), Req: random.Uint32()}
			if m, ok := v.Find(c.Node); ok {
				c.Life = m.Life
			} else if c.Node >= 1 && c.Node <= api.MaxNodes {
				c.Life = v.Lives[c.Node-1] + uint8(random.Intn(3))
			}
			want, ok := wanted(v, c)
			got, held := v.Apply(c)
			if held != ok {
				t.Fatalf("%+v of %v holds: %v", c, v, held)
			}
			same(t, got, want)
			check(t, v, got)
			v = got
		}
	}
}

// check checks what no command changes: nodes remain distinct, somebody remains ready, and neither an epoch nor a life goes back.
func check(t *testing.T, old, v View) {
	t.Helper()
	for i, m := range v.Members {
		if slices.IndexFunc(v.Members, func(o Member) bool { return o.Node == m.Node }) != i || v.Lives[m.Node-1] != m.Life {
			t.Errorf("member %v of %v", m, v)
		}
	}
	if v.Ready() == 0 || v.Epoch < old.Epoch {
		t.Errorf("%v after %v", v, old)
	}
	for i := range v.Lives {
		if v.Lives[i] < old.Lives[i] {
			t.Errorf("lives %v after %v", v.Lives, old.Lives)
		}
	}
}
