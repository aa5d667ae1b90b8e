package learner

import (
	"math/rand"
	"slices"
	"testing"

	"talaria/api"
	"talaria/view"
)

// starts are slots from which most tests begin; the last ones leave no room, or just enough, for a window.
var starts = []uint32{0, 1, 7, 8, 300, 1 << 31, last - 40, last - 17, last - 16, last - 15, last - 9, last - 3, last - 2, last - 1}

// is is what a learner should have.
type is struct {
	next uint32
	view view.View
	kept []view.Command // of the slots directly before next
}

// command returns a command that differs from those of other numbers; most of them hold for no view.
func command(n int) view.Command {
	return view.Command{Kind: uint8(n%2) * 77, Node: uint8(n >> 8), Life: 3, Epoch: 4, Req: uint32(n)}
}

// commands returns so many commands.
func commands(n int) []view.Command {
	var l []view.Command
	for i := range n {
		l = append(l, command(i))
	}
	return l
}

// first returns the view of so many nodes.
func first(nodes int) view.View {
	v, _ := view.First(nodes)
	return v
}

// some returns a view of so many members, in which no field is like another one.
func some(members int) view.View {
	v := view.View{Epoch: 0x01020304, Lives: [api.MaxNodes]uint8{11, 12, 13, 14, 15, 16, 17, 18}}
	for i := range members {
		v.Members = append(v.Members, view.Member{Node: uint8(i + 1), Life: uint8(200 - i), Ready: i%3 != 1})
	}
	return v
}

// has checks all that a learner tells.
func has(t *testing.T, x *Learner, want is) {
	t.Helper()
	low := want.next - uint32(len(want.kept))
	if next := x.Next(); next != want.next {
		t.Errorf("Next: %d, want %d", next, want.next)
	}
	if got := x.Low(); got != low {
		t.Errorf("Low: %d, want %d", got, low)
	}
	if v := x.View(); !view.Same(v, want.view) {
		t.Errorf("View: %v, want %v", v, want.view)
	}
	for i, c := range want.kept {
		if got, ok := x.Get(low + uint32(i)); !ok || got != c {
			t.Errorf("Get of %d: %v %v, want %v", low+uint32(i), got, ok, c)
		}
	}
	for _, slot := range []uint32{0, 1, low - 1, low - 2, low - 9, low - 256, want.next, want.next + 1, want.next + 8, last - 1, last} {
		if slot-low < uint32(len(want.kept)) {
			continue
		}
		if c, ok := x.Get(slot); ok || c != (view.Command{}) {
			t.Errorf("Get of %d, which is not kept: %v %v", slot, c, ok)
		}
	}
}

// same checks a list of what was applied.
func same(t *testing.T, what string, got, want []Applied) {
	t.Helper()
	equal := func(a, b Applied) bool {
		return a.Slot == b.Slot && a.Command == b.Command && a.Holds == b.Holds && view.Same(a.View, b.View)
	}
	if !slices.EqualFunc(got, want, equal) {
		t.Errorf("%s: %v, want %v", what, got, want)
	}
}

// apply returns what is applied by commands from there on, and what a learner has then.
func (w is) apply(l ...view.Command) ([]Applied, is) {
	var all []Applied
	w.kept = slices.Clone(w.kept)
	for _, c := range l {
		v, holds := w.view.Apply(c)
		all = append(all, Applied{w.next, c, holds, v})
		w.view, w.kept = v, append(w.kept, c)
		w.next++
	}
	w.kept = w.kept[max(0, len(w.kept)-api.Kept):]
	return all, w
}

// decides checks that a Decide applies these commands, and returns what the learner has then.
func decides(t *testing.T, x *Learner, w is, slot uint32, c view.Command, l ...view.Command) is {
	t.Helper()
	want, after := w.apply(l...)
	got, e := x.Decide(slot, c)
	if e != api.OK {
		t.Errorf("Decide of %d: %v", slot, e)
	}
	same(t, "Decide", got, want)
	has(t, x, after)
	return after
}

// fails checks that a Decide has an error and no effect.
func fails(t *testing.T, x *Learner, w is, slot uint32, c view.Command, want api.Errno) {
	t.Helper()
	got, e := x.Decide(slot, c)
	if e != want || len(got) > 0 {
		t.Errorf("Decide of %d: %v %v, want %v", slot, got, e, want)
	}
	has(t, x, w)
}

// snaps checks that a Snap applies these commands, and returns what the learner has then.
func snaps(t *testing.T, x *Learner, slot uint32, v view.View, l ...view.Command) is {
	t.Helper()
	want, after := is{next: slot, view: v}.apply(l...)
	got, ok := x.Snap(slot, v)
	if !ok {
		t.Errorf("Snap to %d: false", slot)
	}
	same(t, "Snap", got, want)
	has(t, x, after)
	return after
}

// ignores checks that a Snap has no effect.
func ignores(t *testing.T, x *Learner, w is, slot uint32, v view.View) {
	t.Helper()
	if got, ok := x.Snap(slot, v); ok || len(got) > 0 {
		t.Errorf("Snap to %d: %v %v, want none", slot, got, ok)
	}
	has(t, x, w)
}

// made returns a new learner with a view.
func made(t *testing.T, v view.View) (*Learner, is) {
	t.Helper()
	x, w := New(v), is{view: v}
	has(t, x, w)
	return x, w
}

// at returns a learner with a view of three members whose next slot is that one, and that keeps nothing.
func at(t *testing.T, next uint32) (*Learner, is) {
	t.Helper()
	x, w := made(t, first(3))
	if next == 0 {
		return x, w
	}
	return x, snaps(t, x, next, first(3))
}

// room returns how many slots from one on can be decided at once.
func room(next uint32) int { return int(min(api.MaxEntries, last-next)) }

// P13.1: the example of the chapter.
func TestExample(t *testing.T) {
	x, w := made(t, first(2))
	a := view.Command{Kind: view.Add, Node: 5, Life: 2}
	b := view.Command{Kind: view.Remove, Node: 1, Life: 1}
	w = decides(t, x, w, 1, a)
	w = decides(t, x, w, 0, b, b, a)
	if w.view.Epoch != 3 || len(w.view.Members) != 2 || !w.view.Has(5, 2) {
		t.Errorf("view: %v", w.view)
	}
}

// P13.1: a learner begins with each view, with the slot 0, and keeps nothing.
func TestNew(t *testing.T) {
	l := []view.View{
		{},
		{Members: []view.Member{}},
		{Epoch: last, Members: []view.Member{{}, {Node: 255, Life: 255, Ready: true}, {Node: 255, Life: 255, Ready: true}}},
		{Epoch: 1 << 31, Lives: [api.MaxNodes]uint8{255, 0, 255, 0, 0, 0, 0, 255}},
		some(api.MaxNodes), some(api.MaxNodes + 1), {Members: make([]view.Member, 300)},
	}
	for n := range api.MaxNodes + 1 {
		l = append(l, first(n), some(n))
	}
	for _, v := range l {
		x, w := made(t, v)
		w = decides(t, x, w, 0, view.Command{}, view.Command{})
		decides(t, x, w, 1, command(3), command(3))
	}
}

// P13.1: a command for the next slot is applied at once.
func TestDecideNext(t *testing.T) {
	for _, start := range starts {
		x, w := at(t, start)
		for i := range min(30, last-start) {
			w = decides(t, x, w, start+i, command(int(i)), command(int(i)))
		}
	}
}

// P13.1: each command is applied to the view that the one before it left; those that don't hold are applied too, and change nothing.
func TestHolds(t *testing.T) {
	l := []struct {
		c     view.Command
		holds bool
	}{
		{view.Command{}, true},
		{view.Command{Kind: view.Add, Node: 3, Life: 2}, false},
		{view.Command{Kind: view.Remove, Node: 3, Life: 1}, true},
		{view.Command{Kind: view.Remove, Node: 3, Life: 1}, false},
		{view.Command{Kind: view.Add, Node: 3, Life: 2}, true},
		{view.Command{Kind: view.Grant, Node: 3, Life: 2, Epoch: 2, Req: 9}, false},
		{view.Command{Kind: view.Grant, Node: 3, Life: 2, Epoch: 3, Req: 9}, true},
		{view.Command{Kind: view.Settle, Node: 3, Life: 2}, true},
		{view.Command{Kind: view.Settle, Node: 9, Life: 2}, false},
		{view.Command{Kind: 5, Node: 1, Life: 1}, false},
	}
	for start := range uint32(3) {
		for late := range 2 { // at once, or each but the first one before it
			x, w := at(t, start)
			var all []view.Command
			for i, a := range l {
				all = append(all, a.c)
				if late > 0 && i > 0 {
					w = decides(t, x, w, start+uint32(i), a.c)
				}
			}
			if late > 0 {
				w = decides(t, x, w, start, all[0], all...)
				continue
			}
			for i, a := range l {
				got, e := x.Decide(start+uint32(i), a.c)
				if e != api.OK || len(got) != 1 || got[0].Holds != a.holds {
					t.Errorf("Decide of %v: %v %v, want %v", a.c, got, e, a.holds)
				}
				_, w = w.apply(a.c)
				has(t, x, w)
			}
			if !w.view.Has(3, 2) || w.view.Epoch != 3 || w.view.Ready() != 3 {
				t.Errorf("view: %v", w.view)
			}
		}
	}
}

// P13.1: commands for later slots wait, in whatever order they come, until the next one is there; then they are applied in the order of the slots.
func TestDecideInAnyOrder(t *testing.T) {
	for seed := range 400 {
		r := rand.New(rand.NewSource(int64(seed)))
		start := starts[seed%len(starts)]
		n := room(start)
		x, w := at(t, start)
		l := commands(n)
		there := make([]bool, n)
		for _, i := range r.Perm(n) {
			there[i] = true
			from := int(w.next - start)
			to := from
			for to < n && there[to] {
				to++
			}
			w = decides(t, x, w, start+uint32(i), l[i], l[from:to]...)
		}
		if w.next != start+uint32(n) {
			t.Errorf("next: %d", w.next)
		}
	}
}

// P13.1: of the slots from the next one on, MaxEntries can be decided, but never the slot 2^32 - 1.
func TestWindow(t *testing.T) {
	for _, start := range starts {
		x, w := at(t, start)
		n := uint32(room(start))
		for _, slot := range []uint32{start + n, start + n + 1, start + 255, start + 1<<16, start + 1<<31, last - 1, last} {
			if slot >= start && slot-start >= n {
				fails(t, x, w, slot, command(1), api.ErrRange)
				fails(t, x, w, slot, view.Command{}, api.ErrRange)
			}
		}
		for i := n - 1; i > 0; i-- {
			w = decides(t, x, w, start+i, command(int(i)))
		}
		w = decides(t, x, w, start, command(0), commands(int(n))...)
		fails(t, x, w, last, command(1), api.ErrRange)
	}
}

// P13.1: the slots that can be decided move on with the next one.
func TestWindowMoves(t *testing.T) {
	for _, start := range []uint32{0, 9, last - 30, last - 18} {
		x, w := at(t, start)
		fails(t, x, w, start+api.MaxEntries, command(5), api.ErrRange)
		w = decides(t, x, w, start, command(1), command(1))
		w = decides(t, x, w, start+api.MaxEntries, command(5))
		fails(t, x, w, start+api.MaxEntries+1, command(6), api.ErrRange)
	}
}

// P13.1: behind the slot 2^32 - 2 nothing is decided any more.
func TestEndOfSlots(t *testing.T) {
	x, w := at(t, last-3)
	for i, slot := range []uint32{last - 3, last - 2, last - 1} {
		w = decides(t, x, w, slot, command(i), command(i))
	}
	for _, slot := range []uint32{last, last - 1, last - 3} {
		if slot == last {
			fails(t, x, w, slot, command(9), api.ErrRange)
		} else {
			fails(t, x, w, slot, command(9), api.ErrForm)
		}
	}
	w = decides(t, x, w, last-1, command(2))
	w = decides(t, x, w, 0, command(9))
	for _, slot := range []uint32{0, 5, last - 3, last - 1, last} {
		ignores(t, x, w, slot, some(2))
	}
}

// another returns commands that each differ from c in one field, and one that differs in all.
func another(c view.Command) []view.Command {
	l := []view.Command{c, c, c, c, c, {}}
	l[0].Kind++
	l[1].Node++
	l[2].Life++
	l[3].Epoch += 1 << 31
	l[4].Req--
	return l
}

// P13.1: for a slot in which a command waits, the same one has no effect, and another one is an error.
func TestDecideWhatWaits(t *testing.T) {
	for _, start := range starts[:len(starts)-3] {
		x, w := at(t, start)
		w = decides(t, x, w, start+1, command(1))
		w = decides(t, x, w, start+2, command(2))
		for _, slot := range []uint32{1, 2} {
			for _, c := range append(another(command(int(slot))), command(0), command(3-int(slot))) {
				fails(t, x, w, start+slot, c, api.ErrForm)
			}
			w = decides(t, x, w, start+slot, command(int(slot)))
		}
		w = decides(t, x, w, start, command(1), command(1), command(1), command(2))
	}
}

// P13.1: for a slot whose command is kept, the same one has no effect, and another one is an error; for an earlier slot no command has an effect.
func TestDecideWhatIsApplied(t *testing.T) {
	for _, start := range []uint32{0, 1, 500, last - 40, last - 22} {
		for _, n := range []int{1, 2, api.Kept - 1, api.Kept, api.Kept + 1, 2*api.Kept + 3} {
			x, w := at(t, start)
			for i := range n {
				w = decides(t, x, w, start+uint32(i), command(i), command(i))
			}
			w = decides(t, x, w, w.next+1, command(100)) // something waits
			for i := range n {
				slot := start + uint32(i)
				w = decides(t, x, w, slot, command(i))
				for _, c := range another(command(i)) {
					if n-i > api.Kept {
						w = decides(t, x, w, slot, c)
					} else if c != command(i) {
						fails(t, x, w, slot, c, api.ErrForm)
					}
				}
			}
			for slot := range min(start, 3) {
				w = decides(t, x, w, slot, command(7))
				w = decides(t, x, w, start-1-slot, command(7))
			}
			w = decides(t, x, w, w.next, command(n), command(n), command(100))
		}
	}
}

// P13.3: Get knows the last Kept commands, and Low the first of them; what waits is not kept.
func TestKept(t *testing.T) {
	for _, start := range []uint32{0, 1, 500, last - 40} {
		x, w := at(t, start)
		for i := range uint32(3 * api.Kept) {
			if low := x.Low(); low != start+max(i, api.Kept)-api.Kept {
				t.Errorf("Low behind %d commands from %d on: %d", i, start, low)
			}
			w = decides(t, x, w, start+i, command(int(i)), command(int(i)))
		}
		w = decides(t, x, w, w.next+1, command(1)) // has checks that Get does not return it
		decides(t, x, w, w.next+api.MaxEntries-1, command(2))
	}
}

// P13.1, P13.3: of more than Kept commands that are applied at once, the last Kept are kept.
func TestKeptAtOnce(t *testing.T) {
	for _, start := range []uint32{0, 1, 500, last - 40} {
		x, w := at(t, start)
		l := commands(api.MaxEntries)
		for i := len(l) - 1; i > 0; i-- {
			w = decides(t, x, w, start+uint32(i), l[i])
		}
		decides(t, x, w, start, l[0], l...)
		if low := x.Low(); low != start+api.MaxEntries-api.Kept {
			t.Errorf("Low: %d", low)
		}
	}
}

// P13.2: a snapshot of the next slot, of one before it, or of 2^32 - 1 has no effect, also if something waits or is kept.
func TestSnapThatIsNotAhead(t *testing.T) {
	for _, start := range starts {
		x, w := at(t, start)
		for _, slot := range []uint32{0, 1, start / 2, start - 1, start, last} {
			if slot <= start || slot == last {
				ignores(t, x, w, slot, some(4))
			}
		}
		if start >= last-2 {
			continue
		}
		w = decides(t, x, w, start, command(0), command(0))
		w = decides(t, x, w, start+2, command(2))
		for _, slot := range []uint32{0, start, start + 1, last} {
			ignores(t, x, w, slot, some(4))
		}
		w = decides(t, x, w, start+1, command(1), command(1), command(2))
	}
}

// P13.2: a snapshot that is ahead, however far, sets the view and the next slot, and nothing is kept.
func TestSnap(t *testing.T) {
	for _, start := range starts {
		for _, ahead := range []uint32{1, 2, 3, api.Kept, api.MaxEntries - 1, api.MaxEntries, 100, 1 << 16, 1 << 30, last - 1 - start} {
			if ahead == 0 || ahead >= last-start {
				continue
			}
			x, w := at(t, start)
			if ahead > 1 {
				w = decides(t, x, w, start, command(0), command(0))
				w = decides(t, x, w, start, command(0))
			}
			w = snaps(t, x, start+ahead, some(5))
			ignores(t, x, w, start+ahead, some(6))
			w = decides(t, x, w, start, command(5)) // which is not kept any more
			w = decides(t, x, w, start+ahead-1, command(5))
			w = decides(t, x, w, start+ahead, command(1), command(1))
			fails(t, x, w, start+ahead, command(2), api.ErrForm)
		}
	}
}

// P13.2: by a snapshot, what waits below it is removed; from it on, what waits is applied to its view up to the next gap, and the others go on waiting.
func TestSnapWithWaiting(t *testing.T) {
	for _, start := range []uint32{0, 3, 1 << 20, last - 30} {
		for to := uint32(1); to <= api.MaxEntries+2; to++ {
			for seed := range 20 {
				r := rand.New(rand.NewSource(int64(seed)))
				x, w := at(t, start)
				waits := map[uint32]view.Command{}
				for i := uint32(1); i < api.MaxEntries; i++ {
					if r.Intn(4) > 0 {
						waits[i] = command(int(i))
						w = decides(t, x, w, start+i, waits[i])
					}
				}
				var l []view.Command
				for i := to; ; i++ {
					c, ok := waits[i]
					if !ok {
						break
					}
					l = append(l, c)
				}
				w = snaps(t, x, start+to, some(4), l...)
				gap := to + uint32(len(l))
				if c, ok := waits[gap+1]; ok { // it waits still
					fails(t, x, w, start+gap+1, command(999), api.ErrForm)
					w = decides(t, x, w, start+gap+1, c)
				}
				for i := range to { // these are forgotten
					w = decides(t, x, w, start+i, command(999))
				}
				l = []view.Command{command(998)}
				for i := gap + 1; ; i++ {
					c, ok := waits[i]
					if !ok {
						break
					}
					l = append(l, c)
				}
				w = decides(t, x, w, start+gap, command(998), l...)
			}
		}
	}
}

// P13.2: also a snapshot of a view that no store can have is taken as it is.
func TestSnapOfAnyView(t *testing.T) {
	for _, v := range []view.View{{}, {Members: make([]view.Member, 300)}, {Epoch: last, Members: []view.Member{{Node: 255, Ready: true}}}, some(8)} {
		x, _ := at(t, 4)
		w := snaps(t, x, 9, v)
		decides(t, x, w, 9, view.Command{Kind: view.Add, Node: 8, Life: 200}, view.Command{Kind: view.Add, Node: 8, Life: 200})
	}
}

// P13.1 to P13.3: a nil learner does nothing and has nothing.
func TestNil(t *testing.T) {
	var x *Learner
	for _, slot := range []uint32{0, 1, 16, last - 1, last} {
		fails(t, x, is{}, slot, view.Command{}, api.ErrArg)
		fails(t, x, is{}, slot, command(1), api.ErrArg)
		ignores(t, x, is{}, slot, some(3))
		if c, ok := x.Get(slot); ok || c != (view.Command{}) {
			t.Errorf("Get: %v %v", c, ok)
		}
	}
}

// spoil changes all members of a view, and appends one in its spare room.
func spoil(v view.View) {
	_ = append(v.Members, view.Member{Node: 99})
	for i := range v.Members {
		v.Members[i] = view.Member{Node: 77, Life: 77}
	}
}

// spare returns a view with these members and spare room behind them.
func spare(v view.View) view.View {
	v.Members = append(make([]view.Member, 0, 20), v.Members...)
	return v
}

// What is given is neither changed nor kept, and what is returned is new.
func TestSharesNothing(t *testing.T) {
	v := spare(first(3))
	x := New(v)
	spoil(v)
	w := is{view: first(3)}
	has(t, x, w)
	spoil(x.View())
	has(t, x, w)
	add := view.Command{Kind: view.Add, Node: 6, Life: 1}
	settle := view.Command{Kind: view.Settle, Node: 6, Life: 1}
	w = decides(t, x, w, 2, view.Command{})
	w = decides(t, x, w, 1, settle)
	want, w := w.apply(add, settle, view.Command{})
	got, _ := x.Decide(0, add)
	same(t, "Decide", got, want)
	spoil(got[0].View)
	same(t, "Decide", got[1:], want[1:])
	spoil(got[2].View)
	same(t, "Decide", got[1:2], want[1:2])
	has(t, x, w)
	v = spare(some(3))
	before := spare(some(3)).Members[:20]
	x.Decide(6, view.Command{})
	got, _ = x.Snap(6, v)
	want, w = is{next: 6, view: some(3)}.apply(view.Command{})
	same(t, "Snap", got, want)
	if !slices.Equal(v.Members[:20], before) {
		t.Errorf("changed: %v", v)
	}
	spoil(got[0].View)
	has(t, x, w)
	spoil(v)
	has(t, x, w)
	w = decides(t, x, w, 7, add, add)
	old := x.View()
	w = decides(t, x, w, 8, settle, settle)
	if old.Ready() != some(3).Ready() {
		t.Errorf("changed: %v", old)
	}
	v = spare(some(5))
	snaps(t, x, 20, v)
	spoil(v)
	has(t, x, is{next: 20, view: some(5)})
}

// Two learners share nothing.
func TestTwoLearners(t *testing.T) {
	v := first(2)
	a, w := made(t, v)
	b, u := made(t, v)
	w = decides(t, a, w, 1, command(1))
	u = decides(t, b, u, 1, command(2))
	w = decides(t, a, w, 0, command(3), command(3), command(1))
	u = decides(t, b, u, 0, command(4), command(4), command(2))
	has(t, a, w)
	has(t, b, u)
}

// model is a learner in the words of the chapter: all commands that were applied since it was created or received a snapshot, and those that wait.
type model struct {
	is
	applied []Applied
	waits   map[uint64]view.Command
}

func (m *model) decide(slot uint64, c view.Command) ([]Applied, api.Errno) {
	if slot >= uint64(m.next)+api.MaxEntries || slot == last {
		return nil, api.ErrRange
	}
	for i, a := range m.applied {
		if len(m.applied)-i <= api.Kept && uint64(a.Slot) == slot && a.Command != c {
			return nil, api.ErrForm
		}
	}
	if old, ok := m.waits[slot]; ok && old != c {
		return nil, api.ErrForm
	}
	if slot >= uint64(m.next) {
		m.waits[slot] = c
	}
	return m.advance(), api.OK
}

func (m *model) snap(slot uint64, v view.View) ([]Applied, bool) {
	if slot <= uint64(m.next) || slot == last {
		return nil, false
	}
	m.is, m.applied = is{next: uint32(slot), view: v}, nil
	return m.advance(), true
}

// advance forgets what waits for earlier slots, and applies what waits for the next one.
func (m *model) advance() []Applied {
	for slot := range m.waits {
		if slot < uint64(m.next) {
			delete(m.waits, slot)
		}
	}
	var l []Applied
	for {
		c, ok := m.waits[uint64(m.next)]
		if !ok {
			m.applied = append(m.applied, l...)
			return l
		}
		delete(m.waits, uint64(m.next))
		var one []Applied
		one, m.is = m.is.apply(c)
		l = append(l, one...)
	}
}

// P13.1 to P13.3: whatever is called, a learner is what the words of the chapter say.
func TestAgreesWithTheWords(t *testing.T) {
	counts := map[api.Errno]int{}
	for seed := range 400 {
		r := rand.New(rand.NewSource(int64(seed)))
		start := starts[r.Intn(len(starts))]
		x, w := at(t, start)
		m := &model{is: w, waits: map[uint64]view.Command{}}
		for range 60 {
			slot := m.next + uint32(r.Intn(24)) - 4
			if r.Intn(4) == 0 {
				slot = m.next
			}
			if r.Intn(20) == 0 {
				v := some(r.Intn(9))
				got, ok := x.Snap(slot, v)
				want, ahead := m.snap(uint64(slot), v)
				same(t, "Snap", got, want)
				if ok != ahead {
					t.Errorf("Snap: %v, want %v", ok, ahead)
				}
			} else {
				c := view.Command{Kind: uint8(slot % 6), Node: uint8(slot % 9), Life: 1, Req: slot}
				if r.Intn(12) == 0 {
					c.Req++
				}
				got, e := x.Decide(slot, c)
				want, f := m.decide(uint64(slot), c)
				same(t, "Decide", got, want)
				if e != f {
					t.Errorf("Decide: %v, want %v", e, f)
				}
				counts[e]++
			}
			has(t, x, m.is)
			if t.Failed() {
				t.Fatalf("seed %d", seed)
			}
		}
	}
	for _, e := range []api.Errno{api.OK, api.ErrRange, api.ErrForm} {
		if counts[e] < 300 {
			t.Errorf("%d times %v: too few to tell", counts[e], e)
		}
	}
}
