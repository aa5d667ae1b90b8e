package mark

import (
	"math"
	"math/rand"
	"slices"
	"testing"
)

// The types have the fields of the chapter, and only these: otherwise this does not compile.
var (
	_ = struct {
		N  uint32
		By uint8
	}(Mark{})
	_ = struct{ Mark }(Ballot{})
	_ = struct {
		Mark
		Life uint8
	}(Stamp{})
)

// ordered are marks, each below all that follow.
var ordered = []Mark{
	{0, 0}, {0, 1}, {0, 2}, {0, 127}, {0, 128}, {0, 255},
	{1, 0}, {1, 1}, {1, 255},
	{2, 0}, {255, 255}, {256, 0}, {256, 9},
	{math.MaxInt32, 0}, {math.MaxInt32, 255}, {math.MaxInt32 + 1, 0}, {math.MaxInt32 + 1, 255},
	{math.MaxUint32 - 1, 255}, {math.MaxUint32, 0}, {math.MaxUint32, 1}, {math.MaxUint32, 255},
}

// lives are lives of stamps, each less than all that follow.
var lives = []uint8{0, 1, 2, 127, 128, 200, 255}

func stamp(n uint32, by, life uint8) Stamp { return Stamp{Mark{n, by}, life} }

// ballots returns the ordered marks as ballots.
func ballots() []Ballot {
	var l []Ballot
	for _, m := range ordered {
		l = append(l, Ballot{m})
	}
	return l
}

// stamps returns the ordered marks with all lives, each less than all that follow.
func stamps() []Stamp {
	var l []Stamp
	for _, m := range ordered {
		for _, life := range lives {
			l = append(l, Stamp{m, life})
		}
	}
	return l
}

// P3.1: a mark is below another one by N first and By second; equal marks are not below each other.
func TestBelow(t *testing.T) {
	for i, m := range ordered {
		for j, o := range ordered {
			if m.Below(o) != (i < j) {
				t.Errorf("%v below %v: %v", m, o, m.Below(o))
			}
			if (Ballot{m}).Below(o) != (i < j) || (Stamp{m, 7}).Below(o) != (i < j) {
				t.Errorf("%v below %v, of a ballot or a stamp", m, o)
			}
		}
	}
}

// P3.1: a stamp is less than another one by its mark first and its Life second; equal stamps are not less than each other.
func TestLess(t *testing.T) {
	l := stamps()
	for i, s := range l {
		for j, o := range l {
			if s.Less(o) != (i < j) {
				t.Errorf("%v less than %v: %v", s, o, s.Less(o))
			}
		}
	}
}

// P3.1: the example of the chapter, and the precedence of N, By and Life.
func TestLessKnown(t *testing.T) {
	for _, x := range []struct {
		s, o Stamp
		less bool
	}{
		{stamp(3, 2, 1), stamp(3, 2, 2), true},
		{stamp(3, 2, 1), stamp(4, 1, 1), true},
		{stamp(3, 2, 2), stamp(3, 2, 1), false},
		{stamp(4, 1, 1), stamp(3, 2, 1), false},
		{stamp(3, 2, 1), stamp(3, 2, 1), false},
		{stamp(3, 2, 9), stamp(3, 3, 1), true},
		{stamp(3, 3, 1), stamp(3, 2, 9), false},
		{stamp(3, 9, 9), stamp(4, 1, 1), true},
		{stamp(4, 1, 1), stamp(3, 9, 9), false},
		{stamp(0, 0, 0), stamp(0, 0, 1), true},
		{stamp(0, 0, 0), stamp(0, 0, 0), false},
	} {
		if x.s.Less(x.o) != x.less {
			t.Errorf("%v less than %v: %v", x.s, x.o, !x.less)
		}
	}
}

// P3.1: only the zero mark is none; the life of a stamp does not matter.
func TestNone(t *testing.T) {
	for _, m := range ordered {
		none := m.N == 0 && m.By == 0
		if m.None() != none || (Ballot{m}).None() != none {
			t.Errorf("%v none: %v", m, !none)
		}
		for _, life := range lives {
			if (Stamp{m, life}).None() != none {
				t.Errorf("%v with life %d none: %v", m, life, !none)
			}
		}
	}
}

// P3.1: the maximum of no arguments is the zero value.
func TestMaximumOfNothing(t *testing.T) {
	if b := Highest(); b != (Ballot{}) {
		t.Errorf("Highest(): %v", b)
	}
	if b := Highest([]Ballot{}...); b != (Ballot{}) {
		t.Errorf("Highest of an empty list: %v", b)
	}
	if s := Greatest(); s != (Stamp{}) {
		t.Errorf("Greatest(): %v", s)
	}
	if s := Greatest([]Stamp{}...); s != (Stamp{}) {
		t.Errorf("Greatest of an empty list: %v", s)
	}
}

// P3.1: the highest of one, two and three ballots, in every order and with equal ones.
func TestHighest(t *testing.T) {
	l := ballots()
	for i, a := range l {
		if b := Highest(a); b != a {
			t.Errorf("Highest(%v): %v", a, b)
		}
		for j, c := range l {
			if b := Highest(a, c); b != l[max(i, j)] {
				t.Errorf("Highest(%v, %v): %v", a, c, b)
			}
			for k, d := range l {
				if b := Highest(a, c, d); b != l[max(i, j, k)] {
					t.Errorf("Highest(%v, %v, %v): %v", a, c, d, b)
				}
			}
		}
	}
}

// P3.1: the greatest of one, two and three stamps, in every order and with equal ones.
func TestGreatest(t *testing.T) {
	l := stamps()
	for i, a := range l {
		if s := Greatest(a); s != a {
			t.Errorf("Greatest(%v): %v", a, s)
		}
		for j, c := range l {
			if s := Greatest(a, c); s != l[max(i, j)] {
				t.Errorf("Greatest(%v, %v): %v", a, c, s)
			}
			k := (i + 7*j) % len(l)
			if s := Greatest(a, c, l[k]); s != l[max(i, j, k)] {
				t.Errorf("Greatest(%v, %v, %v): %v", a, c, l[k], s)
			}
		}
	}
}

// P3.1: the maximum of many, wherever it stands; the list is left as it was, with what lies beyond its end.
func TestMaximumOfMany(t *testing.T) {
	random := rand.New(rand.NewSource(1))
	b, s := ballots(), stamps()
	for range 200 {
		random.Shuffle(len(b), func(i, j int) { b[i], b[j] = b[j], b[i] })
		random.Shuffle(len(s), func(i, j int) { s[i], s[j] = s[j], s[i] })
		n, m := random.Intn(len(b)), random.Intn(len(s))
		oldB, oldS := slices.Clone(b), slices.Clone(s)
		if got, want := Highest(b[:n]...), sortedLast(b[:n], func(x, y Ballot) bool { return x.Below(y.Mark) }); got != want {
			t.Fatalf("Highest(%v): %v, want %v", b[:n], got, want)
		}
		if got, want := Greatest(s[:m]...), sortedLast(s[:m], Stamp.Less); got != want {
			t.Fatalf("Greatest(%v): %v, want %v", s[:m], got, want)
		}
		if !slices.Equal(b, oldB) || !slices.Equal(s, oldS) {
			t.Fatal("a list was modified")
		}
	}
}

// sortedLast returns the last element of a sorted copy of a list, the zero value of an empty one.
func sortedLast[T any](l []T, less func(x, y T) bool) T {
	c := slices.Clone(l)
	slices.SortFunc(c, func(x, y T) int {
		switch {
		case less(x, y):
			return -1
		case less(y, x):
			return 1
		}
		return 0
	})
	var last T
	if len(c) > 0 {
		last = c[len(c)-1]
	}
	return last
}

// P3.2: the next ballot has N increased by one and another By; behind the greatest N there is none.
func TestNextBallot(t *testing.T) {
	for _, x := range []struct {
		b    Ballot
		by   uint8
		want Ballot
		ok   bool
	}{
		{Ballot{}, 0, Ballot{Mark{1, 0}}, true},
		{Ballot{}, 3, Ballot{Mark{1, 3}}, true},
		{Ballot{Mark{7, 5}}, 2, Ballot{Mark{8, 2}}, true},
		{Ballot{Mark{7, 2}}, 5, Ballot{Mark{8, 5}}, true},
		{Ballot{Mark{255, 255}}, 255, Ballot{Mark{256, 255}}, true},
		{Ballot{Mark{math.MaxInt32, 1}}, 1, Ballot{Mark{math.MaxInt32 + 1, 1}}, true},
		{Ballot{Mark{math.MaxUint32 - 1, 4}}, 1, Ballot{Mark{math.MaxUint32, 1}}, true},
		{Ballot{Mark{math.MaxUint32, 0}}, 1, Ballot{}, false},
		{Ballot{Mark{math.MaxUint32, 1}}, 255, Ballot{}, false},
	} {
		if b, ok := x.b.Next(x.by); b != x.want || ok != x.ok {
			t.Errorf("%v.Next(%d): %v %v, want %v %v", x.b, x.by, b, ok, x.want, x.ok)
		}
	}
}

// P3.2: the next stamp has N increased by by, and the node and life that are given, of which none stays from the old one.
func TestNextStamp(t *testing.T) {
	for _, x := range []struct {
		s          Stamp
		by         uint32
		node, life uint8
		want       Stamp
	}{
		{Stamp{}, 1, 0, 0, stamp(1, 0, 0)},
		{Stamp{}, 2, 3, 4, stamp(2, 3, 4)},
		{stamp(5, 6, 7), 1, 2, 3, stamp(6, 2, 3)},
		{stamp(5, 2, 3), 2, 6, 7, stamp(7, 6, 7)},
		{stamp(5, 6, 7), 1, 0, 0, stamp(6, 0, 0)},
		{stamp(5, 6, 7), 1, 255, 255, stamp(6, 255, 255)},
		{stamp(5, 6, 7), 1 << 31, 6, 7, stamp(1<<31+5, 6, 7)},
		{stamp(255, 1, 1), 1, 1, 1, stamp(256, 1, 1)},
		{stamp(0, 1, 1), math.MaxUint32, 2, 3, stamp(math.MaxUint32, 2, 3)},
		{stamp(1<<31, 1, 1), 1<<31 - 1, 2, 3, stamp(math.MaxUint32, 2, 3)},
		{stamp(math.MaxUint32-1, 1, 1), 1, 2, 3, stamp(math.MaxUint32, 2, 3)},
		{stamp(math.MaxUint32-2, 1, 1), 2, 2, 3, stamp(math.MaxUint32, 2, 3)},
	} {
		if s, ok := x.s.Next(x.by, x.node, x.life); s != x.want || !ok {
			t.Errorf("%v.Next(%d, %d, %d): %v %v, want %v", x.s, x.by, x.node, x.life, s, ok, x.want)
		}
	}
}

// P3.2: there is no next stamp by 0, nor one with an N greater than 2^32 - 1.
func TestNextStampNone(t *testing.T) {
	for _, x := range []struct {
		s  Stamp
		by uint32
	}{
		{Stamp{}, 0},
		{stamp(5, 6, 7), 0},
		{stamp(math.MaxUint32, 1, 1), 0},
		{stamp(math.MaxUint32, 1, 1), 1},
		{stamp(math.MaxUint32, 1, 1), 2},
		{stamp(math.MaxUint32, 1, 1), math.MaxUint32},
		{stamp(math.MaxUint32-1, 1, 1), 2},
		{stamp(math.MaxUint32-1, 1, 1), 3},
		{stamp(1, 1, 1), math.MaxUint32},
		{stamp(1<<31, 1, 1), 1 << 31},
		{stamp(1<<31+1, 1, 1), 1 << 31},
	} {
		if s, ok := x.s.Next(x.by, 2, 3); s != (Stamp{}) || ok {
			t.Errorf("%v.Next(%d, 2, 3): %v %v, want none", x.s, x.by, s, ok)
		}
	}
}

// P3.1 and P3.2: what Next returns is above what it was called on, which stays as it is.
func TestNextIsAbove(t *testing.T) {
	for _, b := range ballots() {
		old := b
		if n, ok := b.Next(0); ok != (b.N < math.MaxUint32) || ok && !b.Below(n.Mark) || b != old {
			t.Errorf("%v.Next(0): %v %v", b, n, ok)
		}
	}
	for _, s := range stamps() {
		old := s
		for _, by := range []uint32{1, 2, 1 << 31, math.MaxUint32} {
			if n, ok := s.Next(by, 0, 0); ok != (uint64(s.N)+uint64(by) <= math.MaxUint32) || ok && !s.Less(n) || s != old {
				t.Errorf("%v.Next(%d, 0, 0): %v %v", s, by, n, ok)
			}
		}
	}
}
