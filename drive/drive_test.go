package drive

import (
	"math"
	"math/rand"
	"slices"
	"testing"

	"talaria/cell"
	"talaria/mark"
	"talaria/register"
)

// word is a word of node 3 in its second life.
var word = cell.Word{
	Stamp: mark.Stamp{Mark: mark.Mark{N: 4, By: 3}, Life: 2},
	Value: register.Value{Has: true, Text: "x"},
	RMW:   true,
}

// all are all numbers that a node can have.
func all() []uint8 {
	var l []uint8
	for n := range 256 {
		l = append(l, uint8(n))
	}
	return l
}

// done checks what Done returns.
func done(t *testing.T, d *Drive, each, covered bool, others ...uint8) {
	t.Helper()
	if e, c := d.Done(others...); e != each || c != covered {
		t.Errorf("Done%v: %v %v, want %v %v", others, e, c, each, covered)
	}
}

// P18.1: a new drive has its word, and is its node's own or not.
func TestNew(t *testing.T) {
	for _, w := range []cell.Word{{}, word, {Value: register.Value{Text: string(make([]byte, 1000))}}} {
		for _, own := range []bool{false, true} {
			d := New(w, own)
			if d.Word() != w || d.Own() != own {
				t.Errorf("New(%v, %v): %v %v", w, own, d.Word(), d.Own())
			}
			d.Ack(2, true)
			d.Tick(3)
			d.Again()
			d.Done(2)
			if d.Word() != w || d.Own() != own {
				t.Errorf("later: %v %v", d.Word(), d.Own())
			}
		}
	}
}

// P18.1: at first no node has acknowledged, whichever it is, and none was covered; each of no others has acknowledged.
func TestBegins(t *testing.T) {
	d := New(word, true)
	done(t, d, true, false)
	done(t, d, true, false, []uint8{}...)
	for _, n := range all() {
		done(t, d, false, false, n)
	}
}

// P18.1: the example of the chapter.
func TestExample(t *testing.T) {
	d := New(word, true)
	d.Ack(2, false)
	d.Ack(3, true)
	done(t, d, true, true, 2, 3)
}

// P18.1: each of others must have acknowledged, in whatever order, and also if one is named twice.
func TestDone(t *testing.T) {
	d := New(word, true)
	d.Ack(2, false)
	d.Ack(5, false)
	done(t, d, true, false)
	done(t, d, true, false, 2)
	done(t, d, true, false, 5)
	done(t, d, true, false, 2, 5)
	done(t, d, true, false, 5, 2)
	done(t, d, true, false, 2, 2)
	done(t, d, true, false, 2, 5, 2)
	done(t, d, false, false, 3)
	done(t, d, false, false, 3, 3)
	done(t, d, false, false, 2, 3)
	done(t, d, false, false, 3, 2)
	done(t, d, false, false, 2, 5, 3)
	done(t, d, false, false, 2, 3, 5)
	done(t, d, false, false, 0, 2, 5)
	d.Ack(3, false)
	done(t, d, true, false, 2, 5, 3)
}

// P18.1: every number can be that of a node, also 0 and 255, and none is taken for another.
func TestEveryNode(t *testing.T) {
	for _, n := range all() {
		d := New(word, false)
		d.Ack(n, false)
		for _, o := range all() {
			done(t, d, n == o, false, o)
		}
	}
	d := New(word, false)
	for _, n := range all() {
		done(t, d, false, false, all()...)
		d.Ack(n, false)
	}
	done(t, d, true, false, all()...)
}

// P18.1: a covered node is told also if not all others have acknowledged, and also if it is none of them.
func TestCovered(t *testing.T) {
	d := New(word, true)
	d.Ack(2, false)
	done(t, d, false, false, 2, 3)
	d.Ack(7, true)
	done(t, d, false, true, 2, 3)
	done(t, d, true, true, 2)
	done(t, d, true, true)
	d.Ack(3, false)
	done(t, d, true, true, 2, 3)
}

// P18.1: a node that acknowledges again counts as one; it was covered if it was the first or the last time.
func TestAckAgain(t *testing.T) {
	for _, x := range []struct {
		acks []bool
		want bool
	}{
		{[]bool{false, false}, false},
		{[]bool{true, true}, true},
		{[]bool{true, false}, true},
		{[]bool{false, true}, true},
		{[]bool{false, true, false}, true},
	} {
		d := New(word, true)
		for _, covered := range x.acks {
			d.Ack(2, covered)
		}
		done(t, d, true, x.want, 2)
		done(t, d, false, x.want, 2, 3)
	}
}

// P18.1: Again discards the acknowledgements and the covered flag, and sets the ticks to 0, however often; the drive goes on from there.
func TestAgain(t *testing.T) {
	d := New(word, false)
	for range 3 {
		d.Ack(2, false)
		d.Ack(3, true)
		ticks(t, d, 5, false, false, false)
		d.Again()
		done(t, d, true, false)
		done(t, d, false, false, 2)
		done(t, d, false, false, 3)
		d.Ack(3, false)
		done(t, d, true, false, 3)
		done(t, d, false, false, 2, 3)
		d.Again()
		ticks(t, d, 5, false, false, false, false, true)
		ticks(t, d, 5, false, false, false, false)
		d.Again()
	}
	d.Again()
	done(t, d, false, false, 3)
}

// P18.1: a tick and Done do not change what was acknowledged, and an acknowledgement does not change the ticks.
func TestApart(t *testing.T) {
	d := New(word, true)
	ticks(t, d, 3, false)
	d.Ack(2, true)
	ticks(t, d, 3, false)
	done(t, d, false, true, 2, 3)
	ticks(t, d, 3, true)
	done(t, d, true, true, 2)
	done(t, d, false, true, 2, 3)
}

// ticks checks what so many calls of Tick return.
func ticks(t *testing.T, d *Drive, every int, want ...bool) {
	t.Helper()
	for i, w := range want {
		if d.Tick(every) != w {
			t.Errorf("tick %d of %d with every %d: %v", i, len(want), every, !w)
		}
	}
}

// P18.2: every every-th tick returns true; every counts as at least 1.
func TestTick(t *testing.T) {
	for _, every := range []int{math.MinInt, math.MinInt32, -2, -1, 0, 1} {
		ticks(t, New(word, true), every, true, true, true)
	}
	ticks(t, New(word, true), 2, false, true, false, true, false)
	ticks(t, New(word, false), 3, false, false, true, false, false, true, false)
	for _, every := range []int{7, 255, 256, 257, 1000} {
		d := New(word, true)
		for i := range 3 * every {
			if d.Tick(every) != ((i+1)%every == 0) {
				t.Errorf("every %d, tick %d", every, i+1)
			}
		}
	}
	for _, every := range []int{1 << 32, 1<<32 + 1, math.MaxInt} {
		ticks(t, New(word, true), every, false, false, false)
	}
}

// P18.2: every may differ from tick to tick; the ticks count on, and at least every is enough.
func TestTickOtherEvery(t *testing.T) {
	d := New(word, true)
	ticks(t, d, 9, false, false, false)
	ticks(t, d, 5, false, true)
	ticks(t, d, 5, false, false, false)
	ticks(t, d, 4, true)
	ticks(t, d, 9, false, false, false, false)
	ticks(t, d, 2, true, false, true)
	ticks(t, d, 9, false, false)
	ticks(t, d, 0, true)
	ticks(t, d, 2, false, true)
	ticks(t, d, 1, true)
}

// P18.2: on a nil drive nothing has an effect, and the results are zero.
func TestNil(t *testing.T) {
	var d *Drive
	d.Ack(2, true)
	d.Again()
	if d.Word() != (cell.Word{}) || d.Own() {
		t.Error(d.Word(), d.Own())
	}
	done(t, d, false, false)
	done(t, d, false, false, 2)
	for _, every := range []int{-1, 0, 1, 2} {
		if d.Tick(every) {
			t.Error("Tick")
		}
	}
}

// The nodes that are passed to Done are not changed and not kept, nor is what one drive knows known to another.
func TestSharing(t *testing.T) {
	d, e := New(word, true), New(word, true)
	others := append(make([]uint8, 0, 8), 2, 3)
	d.Ack(2, true)
	done(t, d, false, true, others...)
	if !slices.Equal(others[:4], []uint8{2, 3, 0, 0}) {
		t.Error(others[:4])
	}
	others[1] = 2
	done(t, d, true, true, others...)
	done(t, d, false, true, 2, 3)
	done(t, e, false, false, 2)
}

// model is a drive in the words of the chapter.
type model struct {
	nodes   []uint8
	covered bool
	ticks   int
}

// P18.1 and P18.2: sequences of calls at random, compared with a model.
func TestRandom(t *testing.T) {
	random := rand.New(rand.NewSource(1))
	complete, sent := 0, 0
	for range 300 {
		d, m := New(word, true), model{}
		for range 60 {
			switch random.Intn(8) {
			case 0, 1, 2:
				n, covered := uint8(1+random.Intn(5)), random.Intn(4) == 0
				d.Ack(n, covered)
				m.nodes = append(m.nodes, n)
				m.covered = m.covered || covered
			case 3:
				if random.Intn(3) == 0 {
					d.Again()
					m = model{}
				}
			case 4, 5:
				every := random.Intn(6) - 1
				m.ticks++
				want := m.ticks >= max(1, every)
				if d.Tick(every) != want {
					t.Fatalf("Tick(%d): %v", every, !want)
				}
				if want {
					m.ticks = 0
					sent++
				}
			default:
				others := all()[1 : 1+random.Intn(6)]
				want := true
				for _, n := range others {
					want = want && slices.Contains(m.nodes, n)
				}
				done(t, d, want, m.covered, others...)
				if want && len(others) > 2 {
					complete++
				}
			}
		}
	}
	if complete < 100 || sent < 100 {
		t.Errorf("too few to tell: %d %d", complete, sent)
	}
}
