package pace

import (
	"math"
	"math/rand"
	"testing"

	"talaria/api"
)

// strange are numbers that no master and no node has, among them some whose low bits would be a number.
var strange = []int{math.MinInt, math.MinInt32, -256, -255, -2, -1, 0, 256, 257, 1<<32 + 1, math.MaxInt32, math.MaxInt}

// made returns a new pace.
func made(t *testing.T, masters, nodes, hold, wait int) *Pace {
	t.Helper()
	p, e := New(masters, nodes, hold, wait)
	if e != api.OK || p == nil {
		t.Fatalf("New(%d, %d, %d, %d): %v", masters, nodes, hold, wait, e)
	}
	fair(t, p, true)
	return p
}

// fair checks what Fair returns.
func fair(t *testing.T, p *Pace, want bool) {
	t.Helper()
	if p.Fair() != want {
		t.Errorf("Fair: %v, want %v", !want, want)
	}
}

// times calls f with i so many times.
func times(n int, f func(int), i int) {
	for range n {
		f(i)
	}
}

// P8.1: each argument of New has its bounds, and they are within.
func TestNew(t *testing.T) {
	for masters := 1; masters <= api.MaxMasters; masters++ {
		for nodes := 1; nodes <= api.MaxNodes; nodes++ {
			made(t, masters, nodes, 3, 4)
		}
	}
	for n := 1; n <= 1000; n++ {
		made(t, 1, 1, n, 5)
		made(t, 1, 1, 5, n)
	}
	made(t, api.MaxMasters, api.MaxNodes, 1000, 1000)
	made(t, 1, 1, 1, 1)
}

// P8.1: beyond the bounds New returns ErrArg, and no pace.
func TestNewOutOfRange(t *testing.T) {
	refused := func(masters, nodes, hold, wait int) {
		t.Helper()
		if p, e := New(masters, nodes, hold, wait); p != nil || e != api.ErrArg {
			t.Errorf("New(%d, %d, %d, %d): %v %v", masters, nodes, hold, wait, p, e)
		}
	}
	for _, n := range []int{math.MinInt, math.MinInt32, -1000, -1, 0, 1001, 1 << 16, 1<<32 + 1, math.MaxInt} {
		refused(n, 1, 1, 1)
		refused(1, n, 1, 1)
		refused(1, 1, n, 1)
		refused(1, 1, 1, n)
		refused(n, n, n, n)
	}
	for _, n := range []int{api.MaxMasters + 1, api.MaxNodes, 1000} {
		refused(n, 1, 1, 1)
	}
	for _, n := range []int{api.MaxNodes + 1, 1000} {
		refused(1, n, 1, 1)
	}
}

// P8.1: the example of the chapter.
func TestExample(t *testing.T) {
	p := made(t, 1, 1, 2, 3)
	p.Ask(1)
	times(3, p.Master, 1)
	fair(t, p, false)
	p = made(t, 1, 1, 2, 3)
	p.Ask(1)
	times(2, p.Master, 1)
	times(2, p.Node, 1)
	p.Master(1)
	fair(t, p, true)
}

// P8.1: as long as there is no span, masters tick as often as they like.
func TestWithoutASpan(t *testing.T) {
	p := made(t, 2, 2, 1, 1)
	times(50, p.Master, 1)
	times(50, p.Node, 1)
	times(50, p.Master, 2)
	fair(t, p, true)
}

// P8.1: a clock stays behind at the tick number wait of a master, not at the one before.
func TestWait(t *testing.T) {
	for _, wait := range []int{1, 2, 3, 10, 255, 256, 257, 999, 1000} {
		p := made(t, 1, 1, 1, wait)
		p.Ask(1)
		times(wait-1, p.Master, 1)
		fair(t, p, true)
		p.Master(1)
		fair(t, p, false)
	}
}

// P8.1: a span ends at the tick number hold of its node, not at the one before.
func TestHold(t *testing.T) {
	for _, hold := range []int{1, 2, 3, 10, 255, 256, 257, 999, 1000} {
		p := made(t, 1, 1, hold, 2)
		p.Ask(1)
		p.Master(1)
		times(hold-1, p.Node, 1)
		fair(t, p, true)
		p.Master(1)
		fair(t, p, false)
		p = made(t, 1, 1, hold, 2)
		p.Ask(1)
		p.Master(1)
		times(hold, p.Node, 1)
		times(50, p.Master, 1)
		fair(t, p, true)
	}
}

// P8.1: ticks before a span begins do not count, neither those of masters nor those of its node.
func TestTicksBefore(t *testing.T) {
	p := made(t, 1, 1, 3, 3)
	times(7, p.Master, 1)
	times(7, p.Node, 1)
	p.Ask(1)
	times(2, p.Master, 1)
	fair(t, p, true)
	times(2, p.Node, 1)
	p.Master(1)
	fair(t, p, false)
}

// P8.1: the ticks of each master count on their own, whichever master it is.
func TestMastersCountOnTheirOwn(t *testing.T) {
	for last := 1; last <= api.MaxMasters; last++ {
		p := made(t, api.MaxMasters, 1, 5, 3)
		p.Ask(1)
		for i := 1; i <= api.MaxMasters; i++ {
			times(2, p.Master, i)
			fair(t, p, true)
		}
		p.Master(last)
		fair(t, p, false)
	}
}

// P8.1: the spans of each node are its own: only its ticks and stops end them.
func TestNodesOnTheirOwn(t *testing.T) {
	for i := 1; i <= api.MaxNodes; i++ {
		p := made(t, 1, api.MaxNodes, 2, 3)
		for j := 1; j <= api.MaxNodes; j++ {
			p.Ask(j)
		}
		for j := 1; j <= api.MaxNodes; j++ {
			if j != i {
				times(3, p.Node, j)
				p.Stop(j)
			}
		}
		p.Node(i)
		times(2, p.Master, 1)
		fair(t, p, true)
		p.Master(1)
		fair(t, p, false)
	}
}

// P8.1: a node whose spans have ended does not hide another one whose clock stays behind, wherever it is.
func TestOneNodeIsEnough(t *testing.T) {
	for i := 1; i <= api.MaxNodes; i++ {
		p := made(t, 1, api.MaxNodes, 1, 1)
		for j := 1; j <= api.MaxNodes; j++ {
			p.Ask(j)
			if j != i {
				p.Node(j)
			}
		}
		p.Master(1)
		fair(t, p, false)
	}
}

// P8.1: another request does not begin a span anew that has not ended.
func TestOlderSpanRemains(t *testing.T) {
	p := made(t, 1, 1, 3, 4)
	p.Ask(1)
	p.Node(1)
	times(3, p.Master, 1)
	p.Ask(1)
	fair(t, p, true)
	p.Master(1)
	fair(t, p, false)
	p = made(t, 1, 1, 3, 4) // without a tick of the node in between
	p.Ask(1)
	times(3, p.Master, 1)
	p.Ask(1)
	p.Master(1)
	fair(t, p, false)
}

// P8.1: when an older span has ended, a younger one has not: it ends on its own, hold ticks after it began.
func TestYoungerSpanRemains(t *testing.T) {
	for _, ends := range []bool{false, true} {
		p := made(t, 1, 1, 3, 4)
		p.Ask(1)
		times(2, p.Node, 1)
		p.Ask(1)
		times(2, p.Node, 1) // the older one ends at the first of these
		times(3, p.Master, 1)
		fair(t, p, true)
		if ends {
			p.Node(1)
		}
		p.Master(1)
		fair(t, p, ends)
	}
}

// P8.1: the ticks of masters before a younger span began do not count for it.
func TestYoungerSpanCountsFromItsBeginning(t *testing.T) {
	p := made(t, 2, 1, 2, 3)
	p.Ask(1)
	times(2, p.Master, 1)
	p.Node(1)
	p.Ask(1)
	p.Node(1) // ends the older one
	times(2, p.Master, 1)
	p.Master(2)
	fair(t, p, true)
	p.Master(1)
	fair(t, p, false)
}

// P8.1: of many spans that are open at once, a clock stays behind in one.
func TestOneOfManySpans(t *testing.T) {
	for behind := range 6 {
		p := made(t, 1, 1, 4, 10)
		for i := range 6 { // at each tick a span begins, and up to four are open
			p.Ask(1)
			if i == behind {
				times(10, p.Master, 1)
			}
			fair(t, p, i < behind)
			p.Node(1)
		}
		fair(t, p, false)
	}
	p := made(t, 1, 1, 4, 10)
	for range 100 { // in each span a master ticks eight times
		p.Ask(1)
		times(2, p.Master, 1)
		p.Node(1)
	}
	fair(t, p, true)
	times(2, p.Master, 1) // the oldest of the four that are open began three ticks ago: 6, and 2
	p.Ask(1)
	times(1, p.Master, 1)
	fair(t, p, true)
	p.Master(1)
	fair(t, p, false)
}

// P8.1: Stop ends all spans of a node; those that begin afterwards count anew.
func TestStop(t *testing.T) {
	p := made(t, 1, 2, 9, 3)
	for range 3 {
		p.Ask(1)
		p.Node(1)
	}
	times(2, p.Master, 1)
	p.Stop(1)
	times(9, p.Master, 1)
	fair(t, p, true)
	p.Ask(1)
	times(2, p.Master, 1)
	fair(t, p, true)
	p.Stop(2)
	p.Master(1)
	fair(t, p, false)
}

// P8.1: a span that began directly after a Stop begins there, although the node has not ticked since the one before.
func TestAskAfterStop(t *testing.T) {
	p := made(t, 1, 1, 2, 3)
	p.Ask(1)
	times(2, p.Master, 1)
	p.Stop(1)
	p.Ask(1)
	times(2, p.Master, 1)
	fair(t, p, true)
	p.Master(1)
	fair(t, p, false)
}

// P8.1: Stop without a span has no effect on later ones.
func TestStopWithoutASpan(t *testing.T) {
	p := made(t, 1, 1, 2, 2)
	times(3, p.Stop, 1)
	p.Ask(1)
	p.Master(1)
	fair(t, p, true)
	p.Master(1)
	fair(t, p, false)
}

// P8.1: what has stayed behind has stayed behind, whatever follows.
func TestNeverFairAgain(t *testing.T) {
	p := made(t, 2, 2, 1, 1)
	p.Ask(1)
	p.Master(2)
	for range 5 {
		fair(t, p, false)
		p.Stop(1)
		fair(t, p, false)
		p.Ask(2)
		p.Node(1)
		p.Node(2)
		p.Master(1)
		fair(t, p, false)
	}
}

// P8.1: ticks of masters that do not exist have no effect.
func TestNoSuchMaster(t *testing.T) {
	for masters := 1; masters <= api.MaxMasters; masters++ {
		p := made(t, masters, 1, 1, 1)
		p.Ask(1)
		for _, i := range append(beyond(masters), strange...) {
			times(2, p.Master, i)
			fair(t, p, true)
		}
		p.Master(masters)
		fair(t, p, false)
	}
}

// beyond are the numbers that follow n, up to those that no store has.
func beyond(n int) []int {
	var l []int
	for i := n + 1; i < 20; i++ {
		l = append(l, i)
	}
	return l
}

// P8.1: ticks, requests and stops of nodes that do not exist have no effect.
func TestNoSuchNode(t *testing.T) {
	for nodes := 1; nodes <= api.MaxNodes; nodes++ {
		for _, i := range append(beyond(nodes), strange...) {
			p := made(t, 1, nodes, 1, 2)
			p.Ask(i)
			times(3, p.Master, 1)
			fair(t, p, true)
			for j := 1; j <= nodes; j++ {
				p.Ask(j)
			}
			p.Node(i)
			p.Stop(i)
			p.Master(1)
			fair(t, p, true)
			for j := 1; j < nodes; j++ { // only the last one is left
				p.Node(j)
			}
			p.Master(1)
			fair(t, p, false)
		}
	}
}

// P8.1: on a nil pace nothing has an effect, and it is not fair.
func TestNil(t *testing.T) {
	var p *Pace
	for _, i := range append([]int{1, 5, 8}, strange...) {
		p.Master(i)
		p.Node(i)
		p.Ask(i)
		p.Stop(i)
		fair(t, p, false)
	}
}

// Two paces share nothing.
func TestTwoPaces(t *testing.T) {
	a, b := made(t, 1, 1, 1, 1), made(t, 1, 1, 1, 1)
	a.Ask(1)
	b.Master(1)
	fair(t, a, true)
	fair(t, b, true)
	a.Master(1)
	fair(t, a, false)
	fair(t, b, true)
}

// No more is kept than spans that can still matter, however often a node asks.
func TestKeepsFewSpans(t *testing.T) {
	p := made(t, 1, 1, 4, 1000)
	for range 50 {
		times(20, p.Ask, 1)
		p.Master(1)
		times(20, p.Ask, 1)
		if n := len(p.nodes[0].spans); n > 4 {
			t.Fatalf("%d spans are kept", n)
		}
		p.Node(1)
	}
	p.Stop(1)
	if n := len(p.nodes[0].spans); n != 0 {
		t.Errorf("%d spans are kept after Stop", n)
	}
	fair(t, p, true)
}

// event is a call with a number.
type event struct {
	kind, i int
}

const (
	master = iota
	ticked
	ask
	stop
	kinds
)

func (x event) on(p *Pace) {
	switch x.kind {
	case master:
		p.Master(x.i)
	case ticked:
		p.Node(x.i)
	case ask:
		p.Ask(x.i)
	case stop:
		p.Stop(x.i)
	}
}

// behind reports whether a clock stays behind in the span that begins with the first of the events: the words of the chapter, one event after another.
func behind(l []event, masters, hold, wait int) bool {
	node, held := l[0].i, 0
	count := map[int]int{}
	for _, x := range l[1:] {
		switch {
		case x.kind == ticked && x.i == node:
			if held++; held == hold {
				return false
			}
		case x.kind == stop && x.i == node:
			return false
		case x.kind == master && x.i >= 1 && x.i <= masters:
			if count[x.i]++; count[x.i] >= wait {
				return true
			}
		}
	}
	return false
}

// P8.1: whatever happens, Fair is what the words of the chapter say, after each event.
func TestAgreesWithTheWords(t *testing.T) {
	unfair := 0
	for seed := range 3000 {
		r := rand.New(rand.NewSource(int64(seed)))
		masters, nodes, hold, wait := r.Intn(3)+1, r.Intn(3)+1, r.Intn(5)+1, r.Intn(8)+1
		p := made(t, masters, nodes, hold, wait)
		var l []event
		for range 40 {
			x := event{r.Intn(kinds), r.Intn(5)}
			if x.kind == stop && r.Intn(3) > 0 {
				x.kind = ticked
			}
			x.on(p)
			l = append(l, x)
			want := true
			for k, y := range l {
				if y.kind == ask && y.i >= 1 && y.i <= nodes && behind(l[k:], masters, hold, wait) {
					want = false
				}
			}
			if p.Fair() != want {
				t.Fatalf("%d masters, %d nodes, hold %d, wait %d, %v: Fair %v", masters, nodes, hold, wait, l, !want)
			}
		}
		if !p.Fair() {
			unfair++
		}
	}
	if unfair < 500 || unfair > 2500 {
		t.Errorf("%d of 3000 are not fair: too few or too many to tell", unfair)
	}
}
