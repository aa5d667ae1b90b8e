package cell

import (
	"math"
	"math/rand"
	"testing"

	"talaria/mark"
	"talaria/register"
)

// The types have the fields of the chapter, and only these: otherwise this does not compile.
var (
	_ = struct {
		Stamp mark.Stamp
		Value register.Value
		RMW   bool
	}(Word{})
	_ = struct {
		Word
		State int
	}(Cell{})
)

// stamps are stamps, each less than all that follow: they differ in N, in By and in Life.
var stamps = []mark.Stamp{
	{}, stamp(0, 0, 1), stamp(0, 1, 0),
	stamp(1, 1, 1), stamp(1, 1, 2), stamp(1, 2, 1),
	stamp(2, 1, 1), stamp(256, 0, 0), stamp(math.MaxInt32+1, 3, 1),
	stamp(math.MaxUint32, 255, 254), stamp(math.MaxUint32, 255, 255),
}

// states are the three states of a cell.
var states = []int{Unknown, Valid, Invalid}

func stamp(n uint32, by, life uint8) mark.Stamp {
	return mark.Stamp{Mark: mark.Mark{N: n, By: by}, Life: life}
}

func word(s mark.Stamp, text string, rmw bool) Word {
	return Word{Stamp: s, Value: register.Value{Has: true, Text: text}, RMW: rmw}
}

// each calls f with every state, and with every pair of a cell and a word, as the index of its stamp, and every RMW of both.
func each(f func(c Cell, w Word, i, j int)) {
	for _, state := range states {
		for i, s := range stamps {
			for j, o := range stamps {
				for k := range 4 {
					f(Cell{word(s, "old", k&1 != 0), state}, word(o, "new", k&2 != 0), i, j)
				}
			}
		}
	}
}

// The constants have the numbers of the chapter.
func TestConstants(t *testing.T) {
	if Unknown != 0 || Valid != 1 || Invalid != 2 {
		t.Error(Unknown, Valid, Invalid)
	}
	if Took != 1 || Same != 2 || Covered != 3 || Refused != 4 {
		t.Error(Took, Same, Covered, Refused)
	}
}

// The zero Cell is Unknown, and its word is the zero one.
func TestZero(t *testing.T) {
	var c Cell
	if c.State != Unknown || c.Word != (Word{}) {
		t.Error(c)
	}
	if d, r := c.Inv(Word{}); d != c || r != Same {
		t.Errorf("Inv of the zero word: %v %d", d, r)
	}
	if d, ok := c.Val(mark.Stamp{}); d != c || ok {
		t.Errorf("Val of the zero stamp: %v %v", d, ok)
	}
	if d, ok := c.Give(Word{}, true); d != (Cell{State: Valid}) || !ok {
		t.Errorf("Give of the zero word: %v %v", d, ok)
	}
	if d, ok := c.Give(Word{}, false); d != (Cell{State: Invalid}) || !ok {
		t.Errorf("Give of the zero word, invalid: %v %v", d, ok)
	}
}

// P17.1 and P17.2: the example of the chapter.
func TestExample(t *testing.T) {
	w := word(stamp(2, 1, 1), "b", false)
	c, r := Cell{word(stamp(1, 1, 1), "a", false), Valid}.Inv(w)
	if r != Took || c != (Cell{w, Invalid}) {
		t.Errorf("Inv: %v %d", c, r)
	}
	c, ok := c.Val(w.Stamp)
	if !ok || c != (Cell{w, Valid}) {
		t.Errorf("Val: %v %v", c, ok)
	}
}

// P17.1: a word with a greater stamp is taken in every state, all of it, and the cell is Invalid.
func TestInvTook(t *testing.T) {
	each(func(c Cell, w Word, i, j int) {
		if i >= j {
			return
		}
		if d, r := c.Inv(w); d != (Cell{w, Invalid}) || r != Took {
			t.Errorf("%v.Inv(%v): %v %d", c, w, d, r)
		}
	})
}

// P17.1: a word with the same stamp changes nothing, whatever else it has, and whether or not it is an RMW.
func TestInvSame(t *testing.T) {
	each(func(c Cell, w Word, i, j int) {
		if i != j {
			return
		}
		if d, r := c.Inv(w); d != c || r != Same {
			t.Errorf("%v.Inv(%v): %v %d", c, w, d, r)
		}
	})
}

// P17.1: a word with a lesser stamp changes nothing: an RMW is refused, another word is covered. The RMW of the cell does not matter.
func TestInvLess(t *testing.T) {
	each(func(c Cell, w Word, i, j int) {
		if i <= j {
			return
		}
		want := Covered
		if w.RMW {
			want = Refused
		}
		if d, r := c.Inv(w); d != c || r != want {
			t.Errorf("%v.Inv(%v): %v %d, want %d", c, w, d, r, want)
		}
	})
}

// P17.2: Val changes only a cell that is Invalid and has that very stamp, and only its state.
func TestVal(t *testing.T) {
	each(func(c Cell, w Word, i, j int) {
		want, changes := c, c.State == Invalid && i == j
		if changes {
			want.State = Valid
		}
		if d, ok := c.Val(w.Stamp); d != want || ok != changes {
			t.Errorf("%v.Val(%v): %v %v", c, w.Stamp, d, ok)
		}
	})
}

// P17.2: a cell that is Unknown takes every word that is given, also one with a lesser or the same stamp.
func TestGiveUnknown(t *testing.T) {
	each(func(c Cell, w Word, i, j int) {
		if c.State == Unknown {
			gives(t, c, w, Cell{w, Valid}, true, Cell{w, Invalid}, true)
		}
	})
}

// P17.2: another cell takes every word with a greater stamp.
func TestGiveGreater(t *testing.T) {
	each(func(c Cell, w Word, i, j int) {
		if c.State != Unknown && i < j {
			gives(t, c, w, Cell{w, Valid}, true, Cell{w, Invalid}, true)
		}
	})
}

// P17.2: with the same stamp a valid word makes an Invalid cell Valid, but does not replace its word; nothing else changes it.
func TestGiveSame(t *testing.T) {
	each(func(c Cell, w Word, i, j int) {
		switch {
		case i != j:
		case c.State == Invalid:
			gives(t, c, w, Cell{c.Word, Valid}, true, c, false)
		case c.State == Valid:
			gives(t, c, w, c, false, c, false)
		}
	})
}

// P17.2: a word with a lesser stamp changes no cell but one that is Unknown.
func TestGiveLess(t *testing.T) {
	each(func(c Cell, w Word, i, j int) {
		if c.State != Unknown && i > j {
			gives(t, c, w, c, false, c, false)
		}
	})
}

// gives checks what Give returns for a word that is valid, and for one that is not.
func gives(t *testing.T, c Cell, w Word, valid Cell, changes bool, invalid Cell, changesToo bool) {
	t.Helper()
	if d, ok := c.Give(w, true); d != valid || ok != changes {
		t.Errorf("%v.Give(%v, true): %v %v", c, w, d, ok)
	}
	if d, ok := c.Give(w, false); d != invalid || ok != changesToo {
		t.Errorf("%v.Give(%v, false): %v %v", c, w, d, ok)
	}
}

// P17.1 and P17.2: a state that is none of the three is neither Unknown nor Invalid; none of the calls gives it a meaning.
func TestStrangeState(t *testing.T) {
	s := stamp(3, 2, 1)
	for _, state := range []int{math.MinInt, -1, 3, 4, 256, 1 << 32, 1<<32 + 2, math.MaxInt} {
		c := Cell{word(s, "old", false), state}
		if d, r := c.Inv(word(s, "new", false)); d != c || r != Same {
			t.Errorf("%v.Inv: %v %d", c, d, r)
		}
		if d, ok := c.Val(s); d != c || ok {
			t.Errorf("%v.Val: %v %v", c, d, ok)
		}
		gives(t, c, word(s, "new", false), c, false, c, false)
		w := word(stamp(4, 2, 1), "new", false)
		if d, r := c.Inv(w); d != (Cell{w, Invalid}) || r != Took {
			t.Errorf("%v.Inv: %v %d", c, d, r)
		}
		gives(t, c, w, Cell{w, Valid}, true, Cell{w, Invalid}, true)
	}
}

// P17.1 and P17.2: a value without a text and one that is too long for a frame are taken as they are.
func TestValues(t *testing.T) {
	for _, v := range []register.Value{{}, {Has: true}, {Text: "x"}, {Has: true, Text: string(make([]byte, 1000))}} {
		w := Word{Stamp: stamp(2, 1, 1), Value: v, RMW: true}
		if c, r := (Cell{}).Inv(w); c.Word != w || r != Took {
			t.Errorf("Inv(%v): %v %d", w, c, r)
		}
		if c, ok := (Cell{}).Give(w, true); c.Word != w || !ok {
			t.Errorf("Give(%v): %v %v", w, c, ok)
		}
	}
}

// P17.3: from the zero Cell on, no sequence of calls decreases the stamp, and none makes the cell Valid but a Val with its stamp or a word that is given as valid; a word is replaced only by one with a greater stamp, or while the cell is Unknown.
func TestConsequences(t *testing.T) {
	random := rand.New(rand.NewSource(1))
	changes, validated, given := 0, 0, 0
	for range 2000 {
		var c Cell
		for range 40 {
			w := word(stamps[random.Intn(len(stamps))], string(rune('a'+random.Intn(26))), random.Intn(2) == 0)
			before, call, valid := c, random.Intn(3), random.Intn(2) == 0
			switch call {
			case 0:
				c, _ = c.Inv(w)
			case 1:
				c, _ = c.Val(w.Stamp)
			case 2:
				c, _ = c.Give(w, valid)
			}
			if c.Stamp.Less(before.Stamp) {
				t.Fatalf("the stamp decreased: %v to %v", before, c)
			}
			if c.Word != before.Word {
				changes++
				if c.Word != w || before.State != Unknown && !before.Stamp.Less(w.Stamp) {
					t.Fatalf("the word was replaced: %v to %v", before, c)
				}
			}
			if c.State == Valid && before != c {
				switch {
				case call == 1 && c.Stamp == w.Stamp:
					validated++
				case call == 2 && valid && c.Stamp == w.Stamp:
					given++
				default:
					t.Fatalf("the cell became Valid by call %d of %v: %v to %v", call, w, before, c)
				}
			}
			if c.State == Unknown && before.State != Unknown {
				t.Fatalf("the cell became Unknown: %v to %v", before, c)
			}
		}
	}
	if changes < 1000 || validated < 100 || given < 1000 {
		t.Errorf("too few to tell: %d %d %d", changes, validated, given)
	}
}

// P17.1 and P17.2: the cell on which a call is made stays as it is.
func TestUnchanged(t *testing.T) {
	c := Cell{word(stamp(1, 1, 1), "a", false), Invalid}
	old := c
	c.Inv(word(stamp(2, 1, 1), "b", true))
	c.Val(stamp(1, 1, 1))
	c.Give(word(stamp(2, 1, 1), "b", true), true)
	if c != old {
		t.Error(c)
	}
}
