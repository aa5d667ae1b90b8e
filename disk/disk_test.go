package disk

import (
	"math"
	"math/rand"
	"strings"
	"testing"

	"talaria/api"
)

// negative are numbers below 0, among them some whose low bits would be a number of bytes.
var negative = []int{math.MinInt, math.MinInt + 1, math.MinInt32, -1 << 20, -256, -255, -2, -1}

// fails checks what a call returned.
func fails(t *testing.T, what string, got, want api.Errno) {
	t.Helper()
	if got != want {
		t.Errorf("%s: %v, want %v", what, got, want)
	}
}

// on checks what On returns.
func on(t *testing.T, d *Disk, want bool) {
	t.Helper()
	if d.On() != want {
		t.Errorf("On: %v, want %v", !want, want)
	}
}

// contains checks all bytes of a disk whose power is on.
func contains(t *testing.T, d *Disk, want string) {
	t.Helper()
	on(t, d, true)
	if s, e := d.Read(); s != want || e != api.OK {
		t.Errorf("Read: %.40q (%d bytes) %v, want %.40q (%d bytes)", s, len(s), e, want, len(want))
	}
}

// remains checks what is left after a power failure of which so much is kept.
func remains(t *testing.T, d *Disk, keep int, want string) {
	t.Helper()
	d.Crash(keep)
	refuses(t, d)
	d.Start()
	contains(t, d, want)
}

// refuses checks that a disk whose power is off can't be used.
func refuses(t *testing.T, d *Disk) {
	t.Helper()
	on(t, d, false)
	long := strings.Repeat("x", api.MaxDisk+1)
	for _, s := range []string{"", "a", long} {
		fails(t, "Append without power", d.Append(s), api.ErrPower)
	}
	fails(t, "Sync without power", d.Sync(), api.ErrPower)
	for _, n := range []int{-1, 0, 1, api.MaxDisk + 1, math.MinInt, math.MaxInt} {
		fails(t, "Cut without power", d.Cut(n), api.ErrPower)
	}
	if s, e := d.Read(); s != "" || e != api.ErrPower {
		t.Errorf("Read without power: %q %v", s, e)
	}
	on(t, d, false)
}

// written returns a disk with these durable bytes and those others.
func written(t *testing.T, durable, others string) *Disk {
	t.Helper()
	d := New()
	fails(t, "Append", d.Append(durable), api.OK)
	fails(t, "Sync", d.Sync(), api.OK)
	fails(t, "Append", d.Append(others), api.OK)
	contains(t, d, durable+others)
	return d
}

// P9.1: a new disk is empty and can be used at once; another one is another one.
func TestNew(t *testing.T) {
	d := New()
	contains(t, d, "")
	fails(t, "Append", d.Append("a"), api.OK)
	contains(t, New(), "")
	contains(t, d, "a")
}

// P9.1, P9.2: the example of the chapter.
func TestExample(t *testing.T) {
	d := New()
	fails(t, "Append", d.Append("ab"), api.OK)
	fails(t, "Sync", d.Sync(), api.OK)
	fails(t, "Append", d.Append("cde"), api.OK)
	d.Crash(1)
	d.Start()
	contains(t, d, "abc")
}

// P9.1: Append writes any bytes behind the others, also none.
func TestAppend(t *testing.T) {
	d := New()
	all := ""
	for _, s := range []string{"a", "", "bc", "\x00\xff\n", "é", "a", strings.Repeat("x", 5000), ""} {
		fails(t, "Append", d.Append(s), api.OK)
		all += s
		contains(t, d, all)
	}
}

// P9.1: what is appended is not durable, not even that behind which more was appended.
func TestAppendIsNotDurable(t *testing.T) {
	d := New()
	fails(t, "Append", d.Append("ab"), api.OK)
	fails(t, "Append", d.Append("cd"), api.OK)
	remains(t, d, 0, "")
}

// P9.1: there is room for MaxDisk bytes, in one text or in many.
func TestAppendToTheLimit(t *testing.T) {
	full := strings.Repeat("x", api.MaxDisk)
	d := New()
	fails(t, "Append of MaxDisk bytes", d.Append(full), api.OK)
	contains(t, d, full)
	fails(t, "Append of nothing to a full disk", d.Append(""), api.OK)
	fails(t, "Append to a full disk", d.Append("a"), api.ErrFull)
	contains(t, d, full)

	d = New()
	for range 16 {
		fails(t, "Append of a part", d.Append(full[:api.MaxDisk/16]), api.OK)
	}
	fails(t, "Append behind the last part", d.Append("a"), api.ErrFull)
	contains(t, d, full)
}

// P9.1: of a text for which there is no room, nothing is appended, and the disk goes on as it was.
func TestAppendBeyondTheLimit(t *testing.T) {
	full := strings.Repeat("x", api.MaxDisk)
	d := New()
	fails(t, "Append of more", d.Append(full+"y"), api.ErrFull)
	contains(t, d, "")

	d = written(t, "ab", full[:api.MaxDisk-4])
	for range 3 {
		fails(t, "Append of 3 with room for 2", d.Append("yyy"), api.ErrFull)
		fails(t, "Append of much with room for 2", d.Append(full+full), api.ErrFull)
		contains(t, d, "ab"+full[:api.MaxDisk-4])
	}
	remains(t, d, 1, "abx")
	fails(t, "Append with room again", d.Append(full[:api.MaxDisk-4]), api.OK)
	fails(t, "Append of 2 with room for 1", d.Append("yy"), api.ErrFull)
	fails(t, "Append of 1 with room for 1", d.Append("y"), api.OK)
	contains(t, d, "abx"+full[:api.MaxDisk-4]+"y")
	fails(t, "Cut", d.Cut(1), api.OK)
	fails(t, "Append after a Cut", d.Append(full[1:]), api.OK)
	fails(t, "Append after that", d.Append("y"), api.ErrFull)
	contains(t, d, "a"+full[1:])
}

// P9.1: Sync makes all bytes durable that are there, and not those that come.
func TestSync(t *testing.T) {
	d := New()
	fails(t, "Sync of an empty disk", d.Sync(), api.OK)
	contains(t, d, "")
	remains(t, d, 0, "")

	d = New()
	fails(t, "Append", d.Append("ab"), api.OK)
	fails(t, "Append", d.Append("cd"), api.OK)
	fails(t, "Sync", d.Sync(), api.OK)
	fails(t, "Sync again", d.Sync(), api.OK)
	contains(t, d, "abcd")
	fails(t, "Append", d.Append("ef"), api.OK)
	remains(t, d, 0, "abcd")
	fails(t, "Append", d.Append("gh"), api.OK)
	fails(t, "Sync", d.Sync(), api.OK)
	remains(t, d, -1, "abcdgh")
}

// P9.1: Cut removes what is behind the first n bytes, whether it is durable or not; for each n that there is.
func TestCut(t *testing.T) {
	const durable, others = "abc", "defg"
	all := durable + others
	for n := 0; n <= len(all); n++ {
		d := written(t, durable, others)
		fails(t, "Cut", d.Cut(n), api.OK)
		contains(t, d, all[:n])
		fails(t, "Append", d.Append("xy"), api.OK)
		contains(t, d, all[:n]+"xy")
		remains(t, d, 1, all[:n]+"x")
	}
	d := New()
	fails(t, "Cut of an empty disk", d.Cut(0), api.OK)
	contains(t, d, "")
}

// P9.1: what remains after Cut is durable, and what is appended then is not.
func TestCutIsDurable(t *testing.T) {
	const durable, others = "abc", "defg"
	all := durable + others
	for n := 0; n <= len(all); n++ {
		d := written(t, durable, others)
		fails(t, "Cut", d.Cut(n), api.OK)
		remains(t, d, 0, all[:n])

		d = written(t, durable, others)
		fails(t, "Cut", d.Cut(n), api.OK)
		fails(t, "Append", d.Append("xyz"), api.OK)
		remains(t, d, -1, all[:n])
	}
}

// P9.1: Cut to less than nothing or to more than there is changes nothing: the bytes are as durable as they were.
func TestCutOutOfRange(t *testing.T) {
	const durable, others = "abc", "defg"
	wrong := append([]int{8, 9, 256, 256 + 7, 1<<32 + 1, api.MaxDisk, math.MaxInt32, math.MaxInt}, negative...)
	for _, n := range wrong {
		d := written(t, durable, others)
		fails(t, "Cut out of range", d.Cut(n), api.ErrRange)
		contains(t, d, durable+others)
		remains(t, d, 0, durable)
	}
	for _, n := range append([]int{1, 2, math.MaxInt}, negative...) {
		d := New()
		fails(t, "Cut of an empty disk", d.Cut(n), api.ErrRange)
		contains(t, d, "")
	}
}

// P9.1: without power nothing can be used, which is told before any other error; and nothing happens.
func TestWithoutPower(t *testing.T) {
	d := written(t, "abc", "defg")
	d.Crash(2)
	refuses(t, d)
	d.Start()
	contains(t, d, "abcde")

	full := strings.Repeat("x", api.MaxDisk)
	d = written(t, full, "")
	d.Crash(0)
	refuses(t, d)
	d.Start()
	contains(t, d, full)
}

// P9.1: Read returns the bytes of its time and changes none of them.
func TestRead(t *testing.T) {
	d := written(t, "abc", "def")
	s, e := d.Read()
	fails(t, "Read", e, api.OK)
	contains(t, d, "abcdef")
	fails(t, "Cut", d.Cut(1), api.OK)
	fails(t, "Append", d.Append("xyzxyz"), api.OK)
	contains(t, d, "axyzxyz")
	d.Wipe()
	fails(t, "Append", d.Append("123456"), api.OK)
	if s != "abcdef" {
		t.Errorf("what was read is %q now", s)
	}
	remains(t, d, 0, "")

	d = written(t, "abc", "def")
	contains(t, d, "abcdef")
	remains(t, d, 0, "abc")
}

// P9.2: Crash keeps the durable bytes and so many of the others as it is told, but no more than there are, and no fewer than none.
func TestCrash(t *testing.T) {
	const durable, others = "abc", "defg"
	for _, n := range negative {
		remains(t, written(t, durable, others), n, durable)
	}
	for n := 0; n <= len(others); n++ {
		remains(t, written(t, durable, others), n, durable+others[:n])
	}
	for _, n := range []int{5, 6, 7, 8, 256, 1 << 32, api.MaxDisk, math.MaxInt32, math.MaxInt - 1, math.MaxInt} {
		remains(t, written(t, durable, others), n, durable+others)
	}
}

// P9.2: with all bytes durable, or none, or no bytes, Crash keeps what there is.
func TestCrashAtTheEnds(t *testing.T) {
	for _, n := range append([]int{0, 1, 2, 3, math.MaxInt}, negative...) {
		remains(t, written(t, "abc", ""), n, "abc")
		remains(t, New(), n, "")
	}
	for _, n := range negative {
		remains(t, written(t, "", "abc"), n, "")
	}
	for n := range 4 {
		remains(t, written(t, "", "abc"), n, "abc"[:n])
	}
	remains(t, written(t, "", "abc"), 4, "abc")
}

// P9.2: what remains after Crash is durable, also what was not before.
func TestCrashIsDurable(t *testing.T) {
	d := written(t, "abc", "defg")
	remains(t, d, 2, "abcde")
	remains(t, d, 0, "abcde")
	fails(t, "Append", d.Append("xyz"), api.OK)
	remains(t, d, 1, "abcdex")
	remains(t, d, -1, "abcdex")
}

// P9.2: Crash without power has no effect, whatever it is to keep.
func TestCrashWithoutPower(t *testing.T) {
	for _, n := range append([]int{0, 1, 3, 4, 7, math.MaxInt}, negative...) {
		d := written(t, "abc", "defg")
		d.Crash(3)
		d.Crash(n)
		refuses(t, d)
		d.Start()
		contains(t, d, "abcdef")
	}
}

// P9.2: Start switches the power on, and does nothing else if it is on.
func TestStart(t *testing.T) {
	d := New()
	d.Start()
	contains(t, d, "")

	d = written(t, "abc", "defg")
	for range 3 {
		d.Start()
		contains(t, d, "abcdefg")
	}
	remains(t, d, 1, "abcd")
	d.Crash(0)
	d.Start()
	d.Start()
	contains(t, d, "abcd")
}

// P9.2: Wipe removes all bytes and leaves the power on.
func TestWipe(t *testing.T) {
	for _, d := range []*Disk{New(), written(t, "abc", ""), written(t, "", "abc"), written(t, "abc", "defg")} {
		d.Wipe()
		contains(t, d, "")
		fails(t, "Cut of a wiped disk", d.Cut(1), api.ErrRange)
		fails(t, "Append", d.Append("xyz"), api.OK)
		contains(t, d, "xyz")
		remains(t, d, 1, "x")
	}
}

// P9.2: Wipe removes all bytes and leaves the power off.
func TestWipeWithoutPower(t *testing.T) {
	d := written(t, "abc", "defg")
	d.Crash(2)
	d.Wipe()
	refuses(t, d)
	d.Start()
	contains(t, d, "")
	fails(t, "Append", d.Append("xyz"), api.OK)
	remains(t, d, 2, "xy")
}

// P9.1, P9.2: a full disk that was wiped has room for MaxDisk bytes again.
func TestWipeOfAFullDisk(t *testing.T) {
	full := strings.Repeat("x", api.MaxDisk)
	d := written(t, full, "")
	d.Wipe()
	fails(t, "Append", d.Append(full), api.OK)
	fails(t, "Append of more", d.Append("y"), api.ErrFull)
	contains(t, d, full)
}

// P9.1, P9.2: without a disk nothing happens, and the calls that return errors return ErrArg.
func TestNil(t *testing.T) {
	var d *Disk
	for range 2 {
		for _, s := range []string{"", "a", strings.Repeat("x", api.MaxDisk+1)} {
			fails(t, "Append", d.Append(s), api.ErrArg)
		}
		fails(t, "Sync", d.Sync(), api.ErrArg)
		for _, n := range []int{-1, 0, 1, math.MaxInt} {
			fails(t, "Cut", d.Cut(n), api.ErrArg)
			d.Crash(n)
			d.Start()
			d.Wipe()
		}
		if s, e := d.Read(); s != "" || e != api.ErrArg {
			t.Errorf("Read: %q %v", s, e)
		}
		on(t, d, false)
	}
}

// model is a disk as the chapter tells of it: the durable bytes, the others, and the power.
type model struct {
	durable, others string
	on              bool
}

func (m *model) append(s string) api.Errno {
	switch {
	case !m.on:
		return api.ErrPower
	case len(m.durable)+len(m.others)+len(s) > api.MaxDisk:
		return api.ErrFull
	}
	m.others += s
	return api.OK
}

func (m *model) sync() api.Errno {
	if !m.on {
		return api.ErrPower
	}
	m.durable, m.others = m.durable+m.others, ""
	return api.OK
}

func (m *model) cut(n int) api.Errno {
	all := m.durable + m.others
	switch {
	case !m.on:
		return api.ErrPower
	case n < 0 || n > len(all):
		return api.ErrRange
	}
	m.durable, m.others = all[:n], ""
	return api.OK
}

func (m *model) crash(keep int) {
	if !m.on {
		return
	}
	for i := range len(m.others) {
		if i < keep {
			m.durable += m.others[i : i+1]
		}
	}
	m.others, m.on = "", false
}

// P9.1, P9.2: whatever is called in whatever order, a disk does what the model does.
func TestAgainstTheModel(t *testing.T) {
	r := rand.New(rand.NewSource(9))
	texts := []string{"", "a", "bc", "def", "\x00\x01\x02\x03"}
	for range 300 {
		d, m := New(), &model{on: true}
		for range 60 {
			n := r.Intn(20) - 3
			s := texts[r.Intn(len(texts))]
			switch r.Intn(10) {
			case 0, 1, 2, 3:
				fails(t, "Append", d.Append(s), m.append(s))
			case 4:
				fails(t, "Sync", d.Sync(), m.sync())
			case 5:
				fails(t, "Cut", d.Cut(n), m.cut(n))
			case 6:
				d.Crash(n)
				m.crash(n)
			case 7, 8:
				d.Start()
				m.on = true
			case 9:
				if r.Intn(3) == 0 {
					d.Wipe()
					m.durable, m.others = "", ""
				}
			}
			on(t, d, m.on)
			if m.on {
				contains(t, d, m.durable+m.others)
			} else if s, e := d.Read(); s != "" || e != api.ErrPower {
				t.Errorf("Read without power: %q %v", s, e)
			}
		}
		if t.Failed() {
			return
		}
	}
}
