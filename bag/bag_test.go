package bag

import (
	"math"
	"math/rand"
	"strconv"
	"strings"
	"testing"

	"talaria/api"
	"talaria/crc"
)

// entry is what a bag shows of a text.
type entry struct {
	to   uint8
	text string
}

// nowhere are indices that a bag of n texts does not have.
func nowhere(n int) []int {
	return []int{math.MinInt, math.MinInt32, -n, -256, -2, -1, n, n + 1, n + 256, api.MaxBag, math.MaxInt32, math.MaxInt}
}

// filled returns a bag of MaxBag that contains these texts.
func filled(t *testing.T, l ...entry) *Bag {
	t.Helper()
	b := New(api.MaxBag)
	for _, x := range l {
		if !b.Put(x.to, x.text) {
			t.Fatalf("Put(%d, %q) of %d into a bag with room", x.to, x.text, b.Len())
		}
	}
	return b
}

// contains checks that a bag contains just these texts, in this order, and none before or behind them.
func contains(t *testing.T, b *Bag, l ...entry) {
	t.Helper()
	if b.Len() != len(l) {
		t.Errorf("Len: %d, want %d", b.Len(), len(l))
	}
	for i, x := range l {
		if to, s, ok := b.At(i); to != x.to || s != x.text || !ok {
			t.Errorf("At(%d): %d %q %v, want %d %q", i, to, s, ok, x.to, x.text)
		}
	}
	for _, i := range []int{-1, len(l), len(l) + 1} {
		if to, s, ok := b.At(i); to != 0 || s != "" || ok {
			t.Errorf("At(%d) of %d: %d %q %v", i, len(l), to, s, ok)
		}
	}
}

// take checks what Take returns.
func take(t *testing.T, b *Bag, i int, want entry) {
	t.Helper()
	if to, s, ok := b.Take(i); to != want.to || s != want.text || !ok {
		t.Errorf("Take(%d): %d %q %v, want %d %q", i, to, s, ok, want.to, want.text)
	}
}

// is checks what a call reported.
func is(t *testing.T, what string, got, want bool) {
	t.Helper()
	if got != want {
		t.Errorf("%s: %v, want %v", what, got, want)
	}
}

// P7.1: a new bag is empty and has the room that was asked for: none below 0, MaxBag above it.
func TestNew(t *testing.T) {
	for room, want := range map[int]int{
		math.MinInt:    0,
		math.MinInt32:  0,
		-200:           0,
		-1:             0,
		0:              0,
		1:              1,
		2:              2,
		17:             17,
		api.MaxBag - 1: api.MaxBag - 1,
		api.MaxBag:     api.MaxBag,
		api.MaxBag + 1: api.MaxBag,
		256:            api.MaxBag,
		100000:         api.MaxBag,
		math.MaxInt32:  api.MaxBag,
		math.MaxInt:    api.MaxBag,
	} {
		b := New(room)
		contains(t, b)
		n := 0
		for range 300 {
			if b.Put(1, "a") {
				n++
			}
		}
		if n != want || b.Len() != want {
			t.Errorf("New(%d) has room for %d, %d of them there, want %d", room, n, b.Len(), want)
		}
	}
}

// P7.1: Put appends a text with its destination, whatever both are, also one that is there already.
func TestPut(t *testing.T) {
	long := strings.Repeat("x", 5000)
	l := []entry{{1, "a"}, {0, ""}, {255, "\x00\xff"}, {1, "a"}, {2, long}, {18, "é"}, {0, "a"}}
	b := New(api.MaxBag)
	for i, x := range l {
		contains(t, b, l[:i]...)
		is(t, "Put", b.Put(x.to, x.text), true)
	}
	contains(t, b, l...)
}

// P7.1: into a full bag nothing is put, and what is there remains.
func TestPutIntoAFullBag(t *testing.T) {
	b := New(2)
	is(t, "the first", b.Put(1, "a"), true)
	is(t, "the second", b.Put(2, "b"), true)
	for range 3 {
		is(t, "the third", b.Put(3, "c"), false)
		is(t, "an empty one", b.Put(0, ""), false)
		contains(t, b, entry{1, "a"}, entry{2, "b"})
	}
	take(t, b, 0, entry{1, "a"})
	is(t, "with room again", b.Put(3, "c"), true)
	is(t, "without room again", b.Put(4, "d"), false)
	contains(t, b, entry{2, "b"}, entry{3, "c"})
	none := New(0)
	is(t, "without any room", none.Put(1, "a"), false)
	contains(t, none)
}

// P7.1: At shows a text and leaves it where it is.
func TestAt(t *testing.T) {
	l := []entry{{1, "a"}, {2, "b"}, {1, "c"}}
	b := filled(t, l...)
	for range 3 {
		contains(t, b, l...)
	}
}

// P7.1: at an index without a text At and Take return zero values, and Take removes nothing.
func TestNoSuchIndex(t *testing.T) {
	l := []entry{{7, "a"}, {8, "b"}, {9, "c"}}
	for n := range len(l) + 1 {
		b := filled(t, l[:n]...)
		for _, i := range nowhere(n) {
			if n > 0 && i == 0 {
				continue
			}
			if to, s, ok := b.At(i); to != 0 || s != "" || ok {
				t.Errorf("At(%d) of %d: %d %q %v", i, n, to, s, ok)
			}
			if to, s, ok := b.Take(i); to != 0 || s != "" || ok {
				t.Errorf("Take(%d) of %d: %d %q %v", i, n, to, s, ok)
			}
			contains(t, b, l[:n]...)
		}
	}
}

// P7.1: Take removes one text, wherever it is; the following ones move up.
func TestTake(t *testing.T) {
	l := []entry{{1, "a"}, {2, "b"}, {3, "c"}, {4, "d"}}
	for i, x := range l {
		b := filled(t, l...)
		take(t, b, i, x)
		rest := append(append([]entry{}, l[:i]...), l[i+1:]...)
		contains(t, b, rest...)
		is(t, "Put", b.Put(5, "e"), true)
		contains(t, b, append(rest, entry{5, "e"})...)
	}
	b := filled(t, l...)
	for _, x := range l {
		take(t, b, 0, x)
	}
	contains(t, b)
	b = filled(t, l...)
	for i := len(l) - 1; i >= 0; i-- {
		take(t, b, i, l[i])
	}
	contains(t, b)
}

// P7.1: First is the lowest index of a destination, -1 without a text; the example of the chapter.
func TestFirst(t *testing.T) {
	example := filled(t, entry{1, "a"}, entry{2, "b"})
	take(t, example, 0, entry{1, "a"})
	if i := example.First(2); i != 0 {
		t.Errorf("First(2): %d, want 0", i)
	}
	b := filled(t, entry{5, "a"}, entry{2, "b"}, entry{5, "c"}, entry{0, "d"}, entry{255, "e"}, entry{2, "f"})
	want := map[uint8]int{5: 0, 2: 1, 0: 3, 255: 4}
	for to := range 256 {
		i, ok := want[uint8(to)]
		if !ok {
			i = -1
		}
		if got := b.First(uint8(to)); got != i {
			t.Errorf("First(%d): %d, want %d", to, got, i)
		}
		if got := New(5).First(uint8(to)); got != -1 {
			t.Errorf("First(%d) of an empty bag: %d", to, got)
		}
	}
	if b.Len() != 6 {
		t.Errorf("Len after First: %d", b.Len())
	}
}

// P7.1: First follows what is taken, corrupted and copied.
func TestFirstFollows(t *testing.T) {
	b := filled(t, entry{1, "a"}, entry{2, "b"}, entry{1, "c"})
	first := func(to uint8, want int) {
		t.Helper()
		if i := b.First(to); i != want {
			t.Errorf("First(%d): %d, want %d", to, i, want)
		}
	}
	first(1, 0)
	b.Spoil(0, 0, 1)
	first(1, 0)
	b.Take(0)
	first(1, 1)
	first(2, 0)
	b.Again(0)
	first(2, 0)
	b.Take(0)
	first(1, 0)
	first(2, 1)
	b.Take(0)
	first(1, -1)
	first(2, 0)
	b.Take(0)
	first(2, -1)
}

// P7.2: Again appends a copy, and leaves the original where it is.
func TestAgain(t *testing.T) {
	l := []entry{{1, "a"}, {2, ""}, {3, "c"}}
	for i, x := range l {
		b := filled(t, l...)
		is(t, "Again", b.Again(i), true)
		contains(t, b, append(append([]entry{}, l...), x)...)
		is(t, "Again of a copy", b.Again(3), true)
		contains(t, b, append(append([]entry{}, l...), x, x)...)
	}
}

// P7.2: of a text that does not exist there is no copy.
func TestAgainOfNone(t *testing.T) {
	for n, l := range [][]entry{nil, {{1, "a"}}, {{1, "a"}, {2, "b"}}} {
		b := filled(t, l...)
		for _, i := range nowhere(n) {
			if n > 0 && i == 0 {
				continue
			}
			is(t, "Again of "+strconv.Itoa(i), b.Again(i), false)
			contains(t, b, l...)
		}
	}
}

// P7.2: into a full bag no copy is put.
func TestAgainIntoAFullBag(t *testing.T) {
	b := New(2)
	b.Put(1, "a")
	is(t, "with room", b.Again(0), true)
	is(t, "the first", b.Again(0), false)
	is(t, "the copy", b.Again(1), false)
	is(t, "none", b.Again(2), false)
	contains(t, b, entry{1, "a"}, entry{1, "a"})
	b.Take(0)
	is(t, "with room again", b.Again(0), true)
	contains(t, b, entry{1, "a"}, entry{1, "a"})
	most := New(math.MaxInt)
	most.Put(9, "x")
	for n := 1; n < api.MaxBag; n++ {
		is(t, "below MaxBag", most.Again(n-1), true)
	}
	is(t, "at MaxBag", most.Again(0), false)
	if most.Len() != api.MaxBag {
		t.Errorf("Len: %d", most.Len())
	}
}

// P7.2: Spoil inverts the bits that Turn inverts, of that text alone.
func TestSpoil(t *testing.T) {
	for _, s := range []string{"", "a", "abcdefgh", "\x00\xff\x00\xff", crc.Seal("message")} {
		for at := -33; at <= 8*len(s)+1; at++ {
			for _, bits := range []uint32{0, 1, 2, 0x80000000, 0xEDB88320, math.MaxUint32} {
				b := filled(t, entry{1, s}, entry{2, s}, entry{3, s})
				is(t, "Spoil", b.Spoil(1, at, bits), true)
				contains(t, b, entry{1, s}, entry{2, crc.Turn(s, at, bits)}, entry{3, s})
			}
		}
	}
	b := filled(t, entry{1, "a"}, entry{2, "\x00\x00\x00\x00\x00"}, entry{3, "a"})
	is(t, "the first", b.Spoil(0, 1, 1), true)
	is(t, "the second", b.Spoil(1, 4, 0x80000001), true)
	is(t, "the last", b.Spoil(2, -1, 4), true)
	contains(t, b, entry{1, "c"}, entry{2, "\x10\x00\x00\x00\x08"}, entry{3, "c"})
}

// P7.2: what has been corrupted once is not corrupted again, even if no bit of it was inverted.
func TestSpoilOnce(t *testing.T) {
	for _, x := range []struct {
		at   int
		bits uint32
		want string
	}{
		{0, 1, "`bc"},
		{0, 0, "abc"},
		{24, math.MaxUint32, "abc"},
		{-32, math.MaxUint32, "abc"},
		{-1, 1, "abc"},
		{math.MinInt, math.MaxUint32, "abc"},
		{math.MaxInt, math.MaxUint32, "abc"},
		{23, 3, "ab\xe3"},
	} {
		b := filled(t, entry{1, "abc"}, entry{2, "abc"})
		is(t, "Spoil", b.Spoil(0, x.at, x.bits), true)
		for range 3 {
			is(t, "Spoil again", b.Spoil(0, x.at, x.bits), false)
			is(t, "Spoil of other bits", b.Spoil(0, 3, 7), false)
			is(t, "Spoil of no bits", b.Spoil(0, 0, 0), false)
			contains(t, b, entry{1, x.want}, entry{2, "abc"})
		}
		is(t, "Spoil of the other text", b.Spoil(1, 0, 1), true)
		contains(t, b, entry{1, x.want}, entry{2, "`bc"})
	}
	b := filled(t, entry{1, ""})
	is(t, "Spoil of an empty text", b.Spoil(0, 0, 1), true)
	is(t, "Spoil of an empty text again", b.Spoil(0, 0, 1), false)
	contains(t, b, entry{1, ""})
}

// P7.2: a text that does not exist is not corrupted.
func TestSpoilOfNone(t *testing.T) {
	l := []entry{{1, "a"}, {2, "b"}}
	b := filled(t, l...)
	for _, i := range nowhere(len(l)) {
		is(t, "Spoil of "+strconv.Itoa(i), b.Spoil(i, 0, 1), false)
		is(t, "Spoil of an empty bag", New(9).Spoil(i, 0, 1), false)
	}
	is(t, "Spoil of an empty bag", New(9).Spoil(0, 0, 1), false)
	contains(t, b, l...)
	for i := range l {
		is(t, "Spoil afterwards", b.Spoil(i, 0, 0), true)
	}
}

// P7.2: a copy of a corrupted text is corrupted; a copy made before is not.
func TestCopiesOfCorrupted(t *testing.T) {
	b := filled(t, entry{1, "a"})
	b.Again(0)
	is(t, "Spoil", b.Spoil(0, 0, 1), true)
	contains(t, b, entry{1, "`"}, entry{1, "a"})
	b.Again(0)
	contains(t, b, entry{1, "`"}, entry{1, "a"}, entry{1, "`"})
	is(t, "Spoil of the copy of a corrupted text", b.Spoil(2, 0, 1), false)
	is(t, "Spoil of the copy made before", b.Spoil(1, 0, 2), true)
	contains(t, b, entry{1, "`"}, entry{1, "c"}, entry{1, "`"})
	b.Again(2)
	is(t, "Spoil of a copy of a copy", b.Spoil(3, 0, 1), false)
	contains(t, b, entry{1, "`"}, entry{1, "c"}, entry{1, "`"}, entry{1, "`"})
	b = filled(t, entry{1, "a"})
	b.Again(0)
	is(t, "Spoil of a copy", b.Spoil(1, 0, 1), true)
	is(t, "Spoil of its original", b.Spoil(0, 0, 1), true)
}

// P7.1, P7.2: whether a text has been corrupted moves up with it; a text put in its place has not been.
func TestCorruptionMovesUp(t *testing.T) {
	b := filled(t, entry{1, "a"}, entry{2, "b"}, entry{3, "c"})
	b.Spoil(1, 0, 1)
	b.Take(0)
	is(t, "Spoil of the text that moved up", b.Spoil(0, 0, 1), false)
	is(t, "Spoil of the one behind it", b.Spoil(1, 0, 1), true)
	contains(t, b, entry{2, "c"}, entry{3, "b"})
	take(t, b, 0, entry{2, "c"})
	take(t, b, 0, entry{3, "b"})
	b.Put(2, "c")
	is(t, "Spoil of a text that is put where one was", b.Spoil(0, 0, 1), true)
	contains(t, b, entry{2, "b"})
}

// P7.2: a nil bag contains nothing and takes nothing.
func TestNil(t *testing.T) {
	var b *Bag
	for _, i := range []int{math.MinInt, -1, 0, 1, math.MaxInt} {
		is(t, "Again", b.Again(i), false)
		is(t, "Spoil", b.Spoil(i, 0, 1), false)
		if to, s, ok := b.At(i); to != 0 || s != "" || ok {
			t.Errorf("At(%d): %d %q %v", i, to, s, ok)
		}
		if to, s, ok := b.Take(i); to != 0 || s != "" || ok {
			t.Errorf("Take(%d): %d %q %v", i, to, s, ok)
		}
	}
	for _, to := range []uint8{0, 1, 255} {
		is(t, "Put", b.Put(to, "a"), false)
		if i := b.First(to); i != -1 {
			t.Errorf("First(%d): %d", to, i)
		}
	}
	if n := b.Len(); n != 0 {
		t.Errorf("Len: %d", n)
	}
}

// Bags share nothing.
func TestTwoBags(t *testing.T) {
	a, b := New(1), New(3)
	a.Put(1, "a")
	contains(t, b)
	b.Put(2, "b")
	b.Put(3, "c")
	contains(t, a, entry{1, "a"})
	b.Spoil(0, 0, 1)
	b.Take(1)
	is(t, "Spoil of the other", a.Spoil(0, 0, 1), true)
	contains(t, a, entry{1, "`"})
	contains(t, b, entry{2, "c"})
}

// model is a bag in which each text is an entry, and the corrupted ones are marked in a list beside them.
type model struct {
	l    []entry
	bad  []bool
	room int
}

func (m *model) put(x entry, bad bool) bool {
	if len(m.l) == m.room {
		return false
	}
	m.l, m.bad = append(m.l, x), append(m.bad, bad)
	return true
}

func (m *model) has(i int) bool { return 0 <= i && i < len(m.l) }

func (m *model) take(i int) bool {
	if !m.has(i) {
		return false
	}
	m.l = append(append([]entry{}, m.l[:i]...), m.l[i+1:]...)
	m.bad = append(append([]bool{}, m.bad[:i]...), m.bad[i+1:]...)
	return true
}

func (m *model) spoil(i, at int, bits uint32) bool {
	if !m.has(i) || m.bad[i] {
		return false
	}
	m.l[i].text, m.bad[i] = crc.Turn(m.l[i].text, at, bits), true
	return true
}

// step executes a random call on a bag and on its model, and returns what both report.
func step(r *rand.Rand, b *Bag, m *model) (bool, bool) {
	i := r.Intn(len(m.l)+3) - 1
	switch r.Intn(8) {
	case 0, 1, 2:
		x := entry{uint8(r.Intn(4)), strconv.Itoa(r.Intn(1000))}
		return b.Put(x.to, x.text), m.put(x, false)
	case 3, 4:
		_, _, ok := b.Take(i)
		return ok, m.take(i)
	case 5:
		return b.Again(i), m.has(i) && m.put(m.l[i], m.bad[i])
	}
	at, bits := r.Intn(40)-10, r.Uint32()
	return b.Spoil(i, at, bits), m.spoil(i, at, bits)
}

// P7.1, P7.2: whatever is done, a bag and its model report and contain the same.
func TestAgreesWithAModel(t *testing.T) {
	for seed := range 300 {
		r := rand.New(rand.NewSource(int64(seed)))
		m := model{room: r.Intn(9)}
		b := New(m.room)
		for n := range 60 {
			if got, want := step(r, b, &m); got != want {
				t.Fatalf("seed %d, call %d: %v, want %v", seed, n, got, want)
			}
			contains(t, b, m.l...)
			for to := range uint8(5) {
				want := -1
				for i := len(m.l) - 1; i >= 0; i-- {
					if m.l[i].to == to {
						want = i
					}
				}
				if i := b.First(to); i != want {
					t.Fatalf("seed %d, call %d: First(%d): %d, want %d", seed, n, to, i, want)
				}
			}
			if t.Failed() {
				t.Fatalf("seed %d, call %d", seed, n)
			}
		}
	}
}
