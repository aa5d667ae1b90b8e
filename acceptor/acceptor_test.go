package acceptor

import (
	"math"
	"math/rand"
	"slices"
	"strings"
	"testing"

	"talaria/api"
	"talaria/disk"
	"talaria/frame"
	"talaria/journal"
	"talaria/mark"
	"talaria/view"
)

const last = math.MaxUint32 // the greatest slot

var (
	strangers = []uint8{0, api.MaxMasters + 1, 16, 17, 128, 255} // no master has these numbers
	tooMany   = []view.View{{Members: make([]view.Member, api.MaxNodes+1)}, {Epoch: 1, Members: make([]view.Member, 300)}}
)

// is is what an acceptor should have.
type is struct {
	promised mark.Ballot
	base     uint32
	view     view.View
	entries  []frame.Entry // in ascending order of the slots
}

// ballot returns the ballot of a master with that number.
func ballot(n uint32, by uint8) mark.Ballot { return mark.Ballot{Mark: mark.Mark{N: n, By: by}} }

// command returns a command that differs from those of other numbers.
func command(n uint8) view.Command {
	return view.Command{Kind: n, Node: n + 1, Life: n + 2, Epoch: uint32(n) + 3, Req: uint32(n) + 4}
}

// entry returns what is accepted in a slot with a command of that number.
func entry(slot uint32, b mark.Ballot, n uint8) frame.Entry {
	return frame.Entry{Slot: slot, Ballot: b, Command: command(n)}
}

// some returns a view of so many members, in which no field is like another one.
func some(members int) view.View {
	v := view.View{Epoch: 0x01020304, Lives: [api.MaxNodes]uint8{11, 12, 13, 14, 15, 16, 17, 18}}
	for i := range members {
		v.Members = append(v.Members, view.Member{Node: uint8(i + 1), Life: uint8(200 - i), Ready: i%3 != 1})
	}
	return v
}

// views are views of all kinds, among them some that no store can have.
func views() []view.View {
	l := []view.View{
		{},
		{Members: []view.Member{}},
		{Epoch: last, Members: []view.Member{{}, {Node: 255, Life: 255, Ready: true}, {Node: 255, Life: 255, Ready: true}}},
		{Epoch: 0x80000000, Lives: [api.MaxNodes]uint8{255, 0, 255, 0, 0, 0, 0, 255}},
	}
	for n := range api.MaxNodes {
		v, _ := view.First(n + 1)
		l = append(l, v, some(n+1))
	}
	return l
}

// fails checks what a call returned.
func fails(t *testing.T, what string, got, want api.Errno) {
	t.Helper()
	if got != want {
		t.Errorf("%s: %v, want %v", what, got, want)
	}
}

// lists checks a list of entries.
func lists(t *testing.T, what string, got, want []frame.Entry) {
	t.Helper()
	if !slices.Equal(got, want) {
		t.Errorf("%s: %v, want %v", what, got, want)
	}
}

// from returns the entries of the slots from one on.
func from(l []frame.Entry, slot uint32) []frame.Entry {
	var rest []frame.Entry
	for _, x := range l {
		if x.Slot >= slot {
			rest = append(rest, x)
		}
	}
	return rest
}

// has checks all that an acceptor tells.
func has(t *testing.T, a *Acceptor, want is) {
	t.Helper()
	if b := a.Promised(); b != want.promised {
		t.Errorf("Promised: %v, want %v", b, want.promised)
	}
	if base, v := a.Base(); base != want.base || !view.Same(v, want.view) {
		t.Errorf("Base: %d %v, want %d %v", base, v, want.base, want.view)
	}
	slots := []uint32{0, 1, want.base - 1, want.base, want.base + 1, want.base + api.MaxEntries - 1, want.base + api.MaxEntries, last - 1, last}
	for _, x := range want.entries {
		slots = append(slots, x.Slot-1, x.Slot, x.Slot+1)
	}
	for _, slot := range slots {
		lists(t, "Entries", a.Entries(slot), from(want.entries, slot))
	}
}

// open opens a master's disk, and checks what the acceptor has.
func open(t *testing.T, d *disk.Disk, self uint8, want is) *Acceptor {
	t.Helper()
	a, e := Open(d, self)
	if a == nil || e != api.OK {
		t.Fatalf("Open: %v %v", a, e)
	}
	has(t, a, want)
	return a
}

// lasts checks what an acceptor has, and that this is durable.
func lasts(t *testing.T, d *disk.Disk, self uint8, a *Acceptor, want is) *Acceptor {
	t.Helper()
	has(t, a, want)
	d.Crash(0)
	has(t, a, want)
	d.Start()
	return open(t, d, self, want)
}

// refused checks that a disk can't be opened.
func refused(t *testing.T, what string, d *disk.Disk, self uint8, want api.Errno) {
	t.Helper()
	a, e := Open(d, self)
	if a != nil || e != want {
		t.Errorf("Open of %s: %v %v, want %v", what, a, e, want)
	}
}

// made returns the disk of master 2 and its acceptor, with a view of three members.
func made(t *testing.T) (*disk.Disk, *Acceptor, is) {
	t.Helper()
	d, want := disk.New(), is{view: some(3)}
	fails(t, "Make", Make(d, 2, want.view), api.OK)
	return d, open(t, d, 2, want), want
}

// used returns the disk of master 2 and its acceptor, which has promised the ballot 5.3, cut the slots below 10, and accepted commands in some others.
func used(t *testing.T) (*disk.Disk, *Acceptor, is) {
	t.Helper()
	d, a, _ := made(t)
	fails(t, "Truncate", a.Truncate(10, some(5)), api.OK)
	l := []frame.Entry{entry(10, ballot(4, 1), 7), entry(12, ballot(5, 2), 8), entry(25, ballot(2, 5), 9)}
	for _, i := range []int{2, 0, 1} {
		fails(t, "Accept", a.Accept(l[i].Ballot, l[i].Slot, l[i].Command), api.OK)
	}
	got, e := a.Prepare(ballot(5, 3), 12)
	fails(t, "Prepare", e, api.OK)
	lists(t, "Prepare", got, l[1:])
	want := is{promised: ballot(5, 3), base: 10, view: some(5), entries: l}
	has(t, a, want)
	return d, a, want
}

// filled returns a disk with these records.
func filled(t *testing.T, l ...string) *disk.Disk {
	t.Helper()
	d := disk.New()
	j, e := journal.Open(d)
	fails(t, "journal.Open", e, api.OK)
	for _, s := range l {
		fails(t, "Add", j.Add(s), api.OK)
	}
	return d
}

// content returns the bytes of a disk.
func content(t *testing.T, d *disk.Disk) string {
	t.Helper()
	s, e := d.Read()
	fails(t, "Read", e, api.OK)
	return s
}

// P11.2: the example of the chapter.
func TestExample(t *testing.T) {
	_, a, _ := made(t)
	fails(t, "Accept", a.Accept(ballot(1, 1), 0, command(3)), api.OK)
	l, e := a.Prepare(ballot(1, 2), 0)
	fails(t, "Prepare", e, api.OK)
	lists(t, "Prepare", l, []frame.Entry{{Slot: 0, Ballot: ballot(1, 1), Command: command(3)}})
}

// P11.1: Make gives an empty disk to each master, with each view; the acceptor begins with nothing promised, cut or accepted.
func TestMake(t *testing.T) {
	for self := uint8(1); self <= api.MaxMasters; self++ {
		for _, v := range views() {
			d := disk.New()
			fails(t, "Make", Make(d, self, v), api.OK)
			lasts(t, d, self, open(t, d, self, is{view: v}), is{view: v})
		}
	}
}

// P11.1: Make refuses numbers that no master has and views with too many members before it looks at the disk, on which it writes nothing.
func TestMakeOfInvalidArguments(t *testing.T) {
	d, _, want := used(t)
	off := disk.New()
	off.Crash(0)
	empty := disk.New()
	for _, d := range []*disk.Disk{nil, off, d, empty} {
		for _, self := range strangers {
			fails(t, "Make of no master", Make(d, self, some(3)), api.ErrArg)
			fails(t, "Make of no master with too many members", Make(d, self, tooMany[0]), api.ErrArg)
		}
		for _, v := range tooMany {
			fails(t, "Make with too many members", Make(d, 1, v), api.ErrArg)
			fails(t, "Make with too many members", Make(d, api.MaxMasters, v), api.ErrArg)
		}
	}
	if s := content(t, empty); s != "" {
		t.Errorf("written: %q", s)
	}
	open(t, d, 2, want)
}

// P11.1: Make returns the error of the journal for a nil disk and one without power.
func TestMakeWithoutADisk(t *testing.T) {
	fails(t, "Make of nil", Make(nil, 1, some(1)), api.ErrArg)
	d, _, want := used(t)
	empty := disk.New()
	for _, d := range []*disk.Disk{d, empty} {
		d.Crash(0)
		fails(t, "Make without power", Make(d, 1, some(1)), api.ErrPower)
		fails(t, "Make without power again", Make(d, 2, some(1)), api.ErrPower)
		d.Start()
	}
	open(t, d, 2, want)
	refused(t, "a disk that was never made", empty, 1, api.ErrNone)
	fails(t, "Make with power", Make(empty, 1, some(1)), api.OK)
	open(t, empty, 1, is{view: some(1)})
}

// P11.1: Make of a disk that has records, whosever they are, returns ErrState and leaves them.
func TestMakeOfADiskWithRecords(t *testing.T) {
	d, _, want := used(t)
	for self := uint8(1); self <= api.MaxMasters; self++ {
		fails(t, "Make again", Make(d, self, some(1)), api.ErrState)
	}
	lasts(t, d, 2, open(t, d, 2, want), want)
	fresh, _, first := made(t)
	fails(t, "Make at once again", Make(fresh, 2, first.view), api.ErrState)
	open(t, fresh, 2, first)
	other := filled(t, "a", "b")
	before := content(t, other)
	fails(t, "Make of another's disk", Make(other, 1, some(1)), api.ErrState)
	if s := content(t, other); s != before {
		t.Errorf("changed: %q, want %q", s, before)
	}
}

// P11.1: bytes that are no records don't keep a disk from being made, even if it is full of them; a disk that was wiped is empty again.
func TestMakeOfADiskWithoutRecords(t *testing.T) {
	for _, s := range []string{"", "\x00", "no record", strings.Repeat("\x00", 100), strings.Repeat("\xff", api.MaxDisk)} {
		d := disk.New()
		fails(t, "Append", d.Append(s), api.OK)
		fails(t, "Sync", d.Sync(), api.OK)
		refused(t, "a disk without records", d, 3, api.ErrNone)
		fails(t, "Append", d.Append(s), api.OK)
		fails(t, "Make", Make(d, 3, some(2)), api.OK)
		lasts(t, d, 3, open(t, d, 3, is{view: some(2)}), is{view: some(2)})
	}
	d, _, _ := used(t)
	d.Wipe()
	refused(t, "a wiped disk", d, 2, api.ErrNone)
	fails(t, "Make of a wiped disk", Make(d, 4, some(1)), api.OK)
	open(t, d, 4, is{view: some(1)})
}

// P11.1: Open refuses numbers that no master has before it looks at the disk.
func TestOpenOfNoMaster(t *testing.T) {
	d, _, want := used(t)
	off := disk.New()
	off.Crash(0)
	for _, self := range strangers {
		refused(t, "no master's disk", d, self, api.ErrArg)
		refused(t, "nil", nil, self, api.ErrArg)
		refused(t, "a disk without power", off, self, api.ErrArg)
		refused(t, "an empty disk", disk.New(), self, api.ErrArg)
	}
	open(t, d, 2, want)
}

// P11.1: Open returns the error of the journal, or ErrNone if there are no records; it makes no disk.
func TestOpenOfAnUnusableDisk(t *testing.T) {
	refused(t, "nil", nil, 1, api.ErrArg)
	d, _, want := used(t)
	empty := disk.New()
	for self := uint8(1); self <= api.MaxMasters; self++ {
		d.Crash(0)
		refused(t, "a disk without power", d, self, api.ErrPower)
		d.Start()
		refused(t, "an empty disk", empty, self, api.ErrNone)
	}
	open(t, d, 2, want)
	empty.Crash(0)
	refused(t, "an empty disk without power", empty, 1, api.ErrPower)
	fails(t, "Append", d.Append("torn"), api.OK)
	open(t, d, 2, want)
}

// P11.1: Open of a disk that belongs to another master, or to none, returns ErrForm and leaves it as it is.
func TestOpenOfAnothersDisk(t *testing.T) {
	for owner := uint8(1); owner <= api.MaxMasters; owner++ {
		d := disk.New()
		fails(t, "Make", Make(d, owner, some(2)), api.OK)
		for self := uint8(1); self <= api.MaxMasters; self++ {
			if self != owner {
				refused(t, "another master's disk", d, self, api.ErrForm)
			}
		}
		lasts(t, d, owner, open(t, d, owner, is{view: some(2)}), is{view: some(2)})
	}
	d, _, want := used(t)
	refused(t, "another master's used disk", d, 1, api.ErrForm)
	open(t, d, 2, want)
	for _, l := range [][]string{{"a"}, {"\x01"}, {"\x02x", "y"}, {strings.Repeat("\x01", api.MaxRecord)}} {
		for self := uint8(1); self <= api.MaxMasters; self++ {
			refused(t, "a disk of no master", filled(t, l...), self, api.ErrForm)
		}
	}
}

// P11.1: an acceptor that is opened again has its last state, however often, and can be used on.
func TestOpenAgain(t *testing.T) {
	d, a, want := used(t)
	for n := range uint32(5) {
		a = open(t, d, 2, want)
		x := entry(13+n, ballot(6+n, 1), uint8(n))
		fails(t, "Accept", a.Accept(x.Ballot, x.Slot, x.Command), api.OK)
		want.promised = x.Ballot
		want.entries = slices.Insert(want.entries, len(want.entries)-1, x)
		has(t, a, want)
	}
	a = lasts(t, d, 2, a, want)
	fails(t, "Truncate", a.Truncate(16, some(8)), api.OK)
	want.base, want.view, want.entries = 16, some(8), from(want.entries, 16)
	a = lasts(t, d, 2, a, want)
	_, e := a.Prepare(ballot(last, 255), last)
	fails(t, "Prepare", e, api.OK)
	want.promised = ballot(last, 255)
	lasts(t, d, 2, a, want)
}

// P11.2: Prepare of a ballot below the promised one is refused, of the promised one and above it is not; what it returns begins with the slot it is asked for.
func TestPrepare(t *testing.T) {
	_, _, want := used(t)
	below := []mark.Ballot{{}, ballot(5, 2), ballot(4, 5), ballot(0, 255), ballot(5, 0)}
	above := []mark.Ballot{ballot(5, 3), ballot(5, 4), ballot(6, 0), ballot(6, 3), ballot(last, 0), ballot(last, 255), ballot(1<<24, 1)}
	for _, slot := range []uint32{10, 11, 12, 13, 25, 26, 27, 1000, last - 1, last} {
		for _, b := range below {
			d, a, _ := used(t)
			l, e := a.Prepare(b, slot)
			fails(t, "Prepare of a ballot below", e, api.ErrState)
			lists(t, "beside ErrState", l, nil)
			lasts(t, d, 2, a, want)
		}
		for _, b := range above {
			d, a, now := used(t)
			l, e := a.Prepare(b, slot)
			fails(t, "Prepare", e, api.OK)
			lists(t, "Prepare", l, from(want.entries, slot))
			now.promised = b
			lasts(t, d, 2, a, now)
		}
	}
}

// P11.2: Prepare from a slot that is cut is refused, before the ballot counts.
func TestPrepareOfACutSlot(t *testing.T) {
	d, a, want := used(t)
	for _, slot := range []uint32{0, 1, 8, 9} {
		for _, b := range []mark.Ballot{{}, ballot(5, 2), ballot(5, 3), ballot(6, 1), ballot(last, 255)} {
			l, e := a.Prepare(b, slot)
			fails(t, "Prepare of a cut slot", e, api.ErrRange)
			lists(t, "beside ErrRange", l, nil)
			has(t, a, want)
		}
	}
	lasts(t, d, 2, a, want)
}

// P11.2: the zero ballot is the promised one in the beginning: it can be prepared and accepted.
func TestZeroBallot(t *testing.T) {
	d, a, want := made(t)
	l, e := a.Prepare(mark.Ballot{}, 0)
	fails(t, "Prepare", e, api.OK)
	lists(t, "Prepare", l, nil)
	lasts(t, d, 2, a, want)
	a = open(t, d, 2, want)
	fails(t, "Accept", a.Accept(mark.Ballot{}, 3, command(1)), api.OK)
	want.entries = []frame.Entry{entry(3, mark.Ballot{}, 1)}
	l, e = a.Prepare(mark.Ballot{}, 0)
	fails(t, "Prepare", e, api.OK)
	lists(t, "Prepare", l, want.entries)
	lasts(t, d, 2, a, want)
}

// P11.2: what is promised counts for Prepare and Accept, whichever of them promised it.
func TestPromiseCounts(t *testing.T) {
	for _, how := range []func(a *Acceptor, b mark.Ballot) api.Errno{
		func(a *Acceptor, b mark.Ballot) api.Errno { _, e := a.Prepare(b, 0); return e },
		func(a *Acceptor, b mark.Ballot) api.Errno { return a.Accept(b, 4, command(4)) },
	} {
		for _, again := range []bool{false, true} {
			d, a, _ := made(t)
			fails(t, "the promise", how(a, ballot(7, 3)), api.OK)
			if again {
				a, _ = Open(d, 2)
			}
			for _, b := range []mark.Ballot{{}, ballot(7, 2), ballot(6, 5)} {
				_, e := a.Prepare(b, 0)
				fails(t, "Prepare below", e, api.ErrState)
				fails(t, "Accept below", a.Accept(b, 0, command(1)), api.ErrState)
			}
			fails(t, "Accept", a.Accept(ballot(7, 3), 0, command(1)), api.OK)
			fails(t, "Accept above", a.Accept(ballot(7, 4), 1, command(2)), api.OK)
			_, e := a.Prepare(ballot(7, 3), 0)
			fails(t, "Prepare of what was promised before", e, api.ErrState)
			if b := a.Promised(); b != ballot(7, 4) {
				t.Errorf("Promised: %v", b)
			}
		}
	}
}

// P11.2: Accept of a ballot below the promised one is refused; of the promised one and above it, the command is accepted, and the ballot is promised.
func TestAccept(t *testing.T) {
	_, _, want := used(t)
	for _, slot := range []uint32{10, 11, 12, 13, 24, 25} {
		for _, b := range []mark.Ballot{{}, ballot(5, 2), ballot(4, 5), ballot(0, 255), ballot(5, 0)} {
			d, a, _ := used(t)
			fails(t, "Accept of a ballot below", a.Accept(b, slot, command(1)), api.ErrState)
			lasts(t, d, 2, a, want)
		}
		for _, b := range []mark.Ballot{ballot(5, 3), ballot(5, 4), ballot(6, 0), ballot(last, 255)} {
			d, a, _ := used(t)
			fails(t, "Accept", a.Accept(b, slot, command(1)), api.OK)
			now := is{promised: b, base: 10, view: want.view}
			for _, x := range want.entries {
				if x.Slot < slot {
					now.entries = append(now.entries, x)
				}
			}
			now.entries = append(now.entries, entry(slot, b, 1))
			if slot < last {
				now.entries = append(now.entries, from(want.entries, slot+1)...)
			}
			lasts(t, d, 2, a, now)
		}
	}
}

// P11.2: Accept in a slot that is cut returns ErrRange, MaxEntries or more above the first one that is not ErrFull, both before the ballot counts.
func TestAcceptOfOtherSlots(t *testing.T) {
	d, a, want := used(t)
	for _, b := range []mark.Ballot{{}, ballot(5, 2), ballot(5, 3), ballot(last, 255)} {
		for _, slot := range []uint32{0, 1, 8, 9} {
			fails(t, "Accept in a cut slot", a.Accept(b, slot, command(1)), api.ErrRange)
		}
		for _, slot := range []uint32{10 + api.MaxEntries, 11 + api.MaxEntries, 10 + 256, 1 << 16, 1<<31 + 10, last - 1, last} {
			fails(t, "Accept far above", a.Accept(b, slot, command(1)), api.ErrFull)
		}
		has(t, a, want)
	}
	lasts(t, d, 2, a, want)
}

// P11.2: a slot has what was accepted there last: another command, another ballot, or the same again.
func TestAcceptAgain(t *testing.T) {
	d, a, want := made(t)
	for _, x := range []frame.Entry{
		entry(2, ballot(1, 1), 1), entry(2, ballot(1, 1), 1), entry(2, ballot(1, 1), 2),
		entry(2, ballot(3, 1), 2), entry(2, ballot(3, 2), 1), {Slot: 2, Ballot: ballot(3, 2)},
	} {
		fails(t, "Accept", a.Accept(x.Ballot, x.Slot, x.Command), api.OK)
		want.promised, want.entries = x.Ballot, []frame.Entry{x}
		a = lasts(t, d, 2, a, want)
	}
}

// P11.2, P11.3: commands of all kinds are accepted, in every slot there is room for, in any order; Entries are in ascending order.
func TestAcceptEverywhere(t *testing.T) {
	commands := []view.Command{
		{}, {Kind: 255, Node: 255, Life: 255, Epoch: last, Req: last}, {Kind: view.Grant, Node: 1}, {Life: 7}, {Epoch: 1 << 24}, {Req: 1 << 8},
		{Kind: view.Add, Node: 3, Life: 2}, {Kind: view.Remove, Node: 3, Life: 2}, {Kind: view.Settle, Node: 3, Life: 2}, {Kind: 5},
	}
	for seed := range 20 {
		d, a, want := made(t)
		r := rand.New(rand.NewSource(int64(seed)))
		want.entries = make([]frame.Entry, api.MaxEntries)
		for n, slot := range r.Perm(api.MaxEntries) {
			x := frame.Entry{Slot: uint32(slot), Ballot: ballot(uint32(n), 1), Command: commands[r.Intn(len(commands))]}
			fails(t, "Accept", a.Accept(x.Ballot, x.Slot, x.Command), api.OK)
			want.entries[slot], want.promised = x, x.Ballot
		}
		fails(t, "Accept of one more", a.Accept(want.promised, api.MaxEntries, command(1)), api.ErrFull)
		lasts(t, d, 2, a, want)
	}
}

// P11.2: Truncate above the first slot that is not cut cuts those below, whatever was accepted there; to less than, or as much as, that slot it changes nothing.
func TestTruncate(t *testing.T) {
	for _, low := range []uint32{0, 1, 9, 10, 11, 12, 13, 24, 25, 26, 27, 10 + api.MaxEntries, 1 << 31, last - 1, last} {
		for _, v := range views() {
			d, a, want := used(t)
			fails(t, "Truncate", a.Truncate(low, v), api.OK)
			if low > 10 {
				want.base, want.view, want.entries = low, v, from(want.entries, low)
			}
			a = lasts(t, d, 2, a, want)
			fails(t, "Truncate again", a.Truncate(low, some(6)), api.OK)
			lasts(t, d, 2, a, want)
		}
	}
}

// P11.2: Truncate of a view with too many members is refused, wherever it would cut.
func TestTruncateOfAnInvalidView(t *testing.T) {
	d, a, want := used(t)
	for _, v := range tooMany {
		for _, low := range []uint32{0, 9, 10, 11, 30, last} {
			fails(t, "Truncate with too many members", a.Truncate(low, v), api.ErrArg)
			has(t, a, want)
		}
	}
	lasts(t, d, 2, a, want)
}

// P11.2: the slots that can be used move up with Truncate; those that are cut can't be used any more.
func TestSlotsMoveUp(t *testing.T) {
	d, a, want := used(t)
	fails(t, "Truncate", a.Truncate(12, some(1)), api.OK)
	want.base, want.view, want.entries = 12, some(1), want.entries[1:]
	fails(t, "Accept in a cut slot", a.Accept(ballot(6, 1), 11, command(1)), api.ErrRange)
	_, e := a.Prepare(ballot(6, 1), 11)
	fails(t, "Prepare of a cut slot", e, api.ErrRange)
	fails(t, "Accept far above", a.Accept(ballot(6, 1), 12+api.MaxEntries, command(1)), api.ErrFull)
	a = lasts(t, d, 2, a, want)
	x := entry(11+api.MaxEntries, ballot(6, 1), 1)
	fails(t, "Accept", a.Accept(x.Ballot, x.Slot, x.Command), api.OK)
	want.promised, want.entries = x.Ballot, append(want.entries, x)
	lasts(t, d, 2, a, want)
}

// P11.2: at the end of all slots nothing wraps around.
func TestLastSlots(t *testing.T) {
	for room := range uint32(api.MaxEntries + 3) {
		d, a, want := made(t)
		base := last - room
		fails(t, "Truncate", a.Truncate(base, some(2)), api.OK)
		want.base, want.view = base, some(2)
		for i := range min(room+1, api.MaxEntries) {
			x := entry(base+i, ballot(1, 1), uint8(i))
			fails(t, "Accept", a.Accept(x.Ballot, x.Slot, x.Command), api.OK)
			want.promised, want.entries = x.Ballot, append(want.entries, x)
		}
		for _, slot := range []uint32{0, 1, api.MaxEntries, base - 1} {
			fails(t, "Accept in a cut slot", a.Accept(ballot(1, 1), slot, command(1)), api.ErrRange)
		}
		if room >= api.MaxEntries {
			fails(t, "Accept far above", a.Accept(ballot(1, 1), base+api.MaxEntries, command(1)), api.ErrFull)
			fails(t, "Accept far above", a.Accept(ballot(1, 1), last, command(1)), api.ErrFull)
		}
		l, e := a.Prepare(ballot(1, 2), last)
		fails(t, "Prepare", e, api.OK)
		lists(t, "Prepare", l, from(want.entries, last))
		want.promised = ballot(1, 2)
		lasts(t, d, 2, a, want)
	}
}

// P11.2, P11.3: a nil acceptor refuses everything, and has nothing.
func TestNil(t *testing.T) {
	var a *Acceptor
	for _, n := range []uint32{0, 1, last} {
		l, e := a.Prepare(ballot(n, 1), n)
		fails(t, "Prepare", e, api.ErrArg)
		lists(t, "Prepare", l, nil)
		fails(t, "Accept", a.Accept(ballot(n, 1), n, command(1)), api.ErrArg)
		fails(t, "Truncate", a.Truncate(n, some(3)), api.ErrArg)
		fails(t, "Truncate", a.Truncate(n, tooMany[0]), api.ErrArg)
		has(t, a, is{})
	}
}

// P11.3: after a power failure a call that would write returns the error of the journal, and changes nothing; what is refused, or needs no record, is answered as with power.
func TestWithoutPower(t *testing.T) {
	d, a, want := used(t)
	d.Crash(0)
	for _, e := range []api.Errno{api.ErrPower, api.ErrState} { // the journal returns ErrPower once
		fails(t, "Accept", a.Accept(ballot(6, 1), 11, command(1)), e)
		fails(t, "Accept below", a.Accept(ballot(5, 2), 11, command(1)), api.ErrState)
		fails(t, "Accept in a cut slot", a.Accept(ballot(6, 1), 9, command(1)), api.ErrRange)
		fails(t, "Accept far above", a.Accept(ballot(6, 1), 99, command(1)), api.ErrFull)
		fails(t, "Truncate to less", a.Truncate(9, some(1)), api.OK)
		fails(t, "Truncate to as much", a.Truncate(10, some(1)), api.OK)
		fails(t, "Truncate with too many members", a.Truncate(11, tooMany[0]), api.ErrArg)
		l, e := a.Prepare(ballot(5, 3), 12)
		fails(t, "Prepare of the promised ballot", e, api.OK)
		lists(t, "Prepare of the promised ballot", l, want.entries[1:])
		_, e = a.Prepare(ballot(5, 2), 12)
		fails(t, "Prepare below", e, api.ErrState)
		_, e = a.Prepare(ballot(6, 1), 9)
		fails(t, "Prepare of a cut slot", e, api.ErrRange)
		has(t, a, want)
	}
	d.Start()
	open(t, d, 2, want)
}

// writes are calls that write a record, for an acceptor as used returns it; they return the error.
func writes() map[string]func(a *Acceptor) api.Errno {
	return map[string]func(a *Acceptor) api.Errno{
		"Prepare": func(a *Acceptor) api.Errno {
			l, e := a.Prepare(ballot(9, 9), 11)
			if e != api.OK && len(l) > 0 {
				return -1 // beside an error there is no list
			}
			return e
		},
		"Accept":                          func(a *Acceptor) api.Errno { return a.Accept(ballot(9, 9), 11, command(1)) },
		"Accept with the promised ballot": func(a *Acceptor) api.Errno { return a.Accept(ballot(5, 3), 12, command(1)) },
		"Truncate":                        func(a *Acceptor) api.Errno { return a.Truncate(12, some(4)) },
	}
}

// P11.2, P11.3: each call is the one that meets the power failure: it returns ErrPower, and changes nothing.
func TestMeetsAPowerFailure(t *testing.T) {
	for name, call := range writes() {
		d, a, want := used(t)
		d.Crash(0)
		fails(t, name, call(a), api.ErrPower)
		has(t, a, want)
		fails(t, name+" again", call(a), api.ErrState)
		d.Start()
		fails(t, name+" with power again", call(a), api.ErrState)
		has(t, a, want)
		a = open(t, d, 2, want)
		fails(t, name+" after it is opened again", call(a), api.OK)
	}
}

// P11.1, P11.2: the power fails while a record is being written, and a part of it is kept: the acceptor has the state before it, or the one after it if all of it is there.
func TestPowerFailureDuringAWrite(t *testing.T) {
	for name, call := range writes() {
		d, a, before := used(t)
		durable := content(t, d)
		fails(t, name, call(a), api.OK)
		after := is{promised: a.Promised(), entries: a.Entries(0)}
		after.base, after.view = a.Base()
		record := content(t, d)[len(durable):]
		if record == "" {
			t.Errorf("%s wrote nothing", name)
		}
		for keep := range len(record) + 1 {
			d := disk.New()
			fails(t, "Append", d.Append(durable), api.OK)
			fails(t, "Sync", d.Sync(), api.OK)
			fails(t, "Append", d.Append(record), api.OK)
			d.Crash(keep)
			d.Start()
			want := before
			if keep == len(record) {
				want = after
			}
			lasts(t, d, 2, open(t, d, 2, want), want)
		}
	}
}

// P11.1: the power fails during Make: the disk has no records, so that it can be made, or it has been made.
func TestPowerFailureDuringMake(t *testing.T) {
	made := disk.New()
	fails(t, "Make", Make(made, 1, some(3)), api.OK)
	record := content(t, made)
	for keep := range len(record) + 1 {
		d := disk.New()
		fails(t, "Append", d.Append(record), api.OK)
		d.Crash(keep)
		d.Start()
		if keep < len(record) {
			refused(t, "a disk on which Make was not finished", d, 1, api.ErrNone)
			fails(t, "Make again", Make(d, 1, some(3)), api.OK)
		} else {
			fails(t, "Make again", Make(d, 1, some(3)), api.ErrState)
		}
		lasts(t, d, 1, open(t, d, 1, is{view: some(3)}), is{view: some(3)})
	}
}

// P11.2, P11.3: on a full disk a call that would write returns ErrFull, and changes nothing; the acceptor can still be opened.
func TestFullDisk(t *testing.T) {
	d, a, want := used(t)
	want.entries = slices.Insert(want.entries, 2, frame.Entry{})
	for n := range api.MaxDisk {
		x := entry(13, ballot(5, 3), uint8(n))
		if e := a.Accept(x.Ballot, x.Slot, x.Command); e != api.OK {
			fails(t, "Accept on a full disk", e, api.ErrFull)
			break
		}
		want.entries[2] = x
	}
	has(t, a, want)
	for name, call := range writes() {
		fails(t, name+" after the disk was full", call(a), api.ErrState)
		has(t, a, want)
	}
	for name, call := range writes() {
		a = open(t, d, 2, want)
		fails(t, "Append", d.Append(strings.Repeat("x", api.MaxDisk-len(content(t, d)))), api.OK)
		fails(t, name+" on a full disk", call(a), api.ErrFull)
		has(t, a, want)
	}
	lasts(t, d, 2, a, want)
}

// Views that are given are neither changed nor kept, and what is returned is new.
func TestSharesNothing(t *testing.T) {
	room := append(make([]view.Member, 0, api.MaxNodes), some(3).Members...)
	first := some(3)
	first.Members = room
	d := disk.New()
	fails(t, "Make", Make(d, 2, first), api.OK)
	if !slices.Equal(room[:4], append(some(3).Members, view.Member{})) {
		t.Errorf("changed: %v", room[:4])
	}
	clear(room)
	want := is{view: some(3)}
	a := open(t, d, 2, want)
	_, v := a.Base()
	clear(v.Members)
	has(t, a, want)

	given := some(5)
	fails(t, "Truncate", a.Truncate(4, given), api.OK)
	if !view.Same(given, some(5)) {
		t.Errorf("changed: %v", given)
	}
	clear(given.Members)
	want.base, want.view = 4, some(5)
	has(t, a, want)
	_, v = a.Base()
	clear(v.Members[:1])
	has(t, a, want)

	x := entry(6, ballot(1, 1), 1)
	fails(t, "Accept", a.Accept(x.Ballot, x.Slot, x.Command), api.OK)
	want.promised, want.entries = x.Ballot, []frame.Entry{x}
	clear(a.Entries(0))
	l, e := a.Prepare(ballot(1, 1), 4)
	fails(t, "Prepare", e, api.OK)
	clear(l)
	lasts(t, d, 2, a, want)
}

// Two acceptors share nothing.
func TestTwoAcceptors(t *testing.T) {
	_, a, one := used(t)
	d, b, two := made(t)
	fails(t, "Accept", b.Accept(ballot(9, 9), 0, command(9)), api.OK)
	two.promised, two.entries = ballot(9, 9), []frame.Entry{entry(0, ballot(9, 9), 9)}
	has(t, a, one)
	d.Crash(0)
	fails(t, "Accept of the other", a.Accept(ballot(5, 3), 10, command(7)), api.OK)
	has(t, b, two)
}

// model is an acceptor in the words of the chapter: a list of all that was ever accepted, the latest first.
type model struct {
	promised mark.Ballot
	base     uint64
	view     view.View
	accepted []frame.Entry
}

// above reports whether a ballot is above another one.
func above(a, b mark.Ballot) bool { return a.N > b.N || a.N == b.N && a.By > b.By }

func (m *model) now() is {
	w := is{promised: m.promised, base: uint32(m.base), view: m.view}
	for slot := m.base; slot < m.base+api.MaxEntries; slot++ {
		for _, x := range m.accepted {
			if uint64(x.Slot) == slot {
				w.entries = append(w.entries, x)
				break
			}
		}
	}
	return w
}

func (m *model) prepare(b mark.Ballot, slot uint32) api.Errno {
	switch {
	case uint64(slot) < m.base:
		return api.ErrRange
	case above(m.promised, b):
		return api.ErrState
	}
	m.promised = b
	return api.OK
}

func (m *model) accept(x frame.Entry) api.Errno {
	switch {
	case uint64(x.Slot) < m.base:
		return api.ErrRange
	case uint64(x.Slot) >= m.base+api.MaxEntries:
		return api.ErrFull
	case above(m.promised, x.Ballot):
		return api.ErrState
	}
	m.promised = x.Ballot
	m.accepted = append([]frame.Entry{x}, m.accepted...)
	return api.OK
}

func (m *model) truncate(low uint32, v view.View) {
	if uint64(low) > m.base {
		m.base, m.view = uint64(low), v
	}
}

// P11.1, P11.2, P11.3: whatever is called, also with power failures between, an acceptor is what the words of the chapter say.
func TestAgreesWithTheWords(t *testing.T) {
	met := map[api.Errno]int{}
	for seed := range 400 {
		r := rand.New(rand.NewSource(int64(seed)))
		d, a, first := made(t)
		m := &model{view: first.view}
		if seed%3 == 0 {
			m.truncate(last-uint32(r.Intn(40)), some(1))
			fails(t, "Truncate", a.Truncate(uint32(m.base), some(1)), api.OK)
		}
		for range 60 {
			b := ballot(m.promised.N+uint32(r.Intn(3)), uint8(r.Intn(4)))
			if r.Intn(4) == 0 {
				b = ballot(uint32(r.Intn(5)), uint8(r.Intn(4)))
			}
			slot := uint32(m.base) + uint32(r.Intn(20)) - 2
			switch r.Intn(6) {
			case 0, 1:
				l, e := a.Prepare(b, slot)
				want := m.prepare(b, slot)
				met[e]++
				fails(t, "Prepare", e, want)
				if want == api.OK {
					lists(t, "Prepare", l, from(m.now().entries, slot))
				} else {
					lists(t, "beside an error", l, nil)
				}
			case 2, 3:
				x := entry(slot, b, uint8(r.Intn(200)))
				e := a.Accept(b, slot, x.Command)
				met[e]++
				fails(t, "Accept", e, m.accept(x))
			case 4:
				low := uint32(m.base) + uint32(r.Intn(6)) - 2
				v := some(r.Intn(api.MaxNodes + 1))
				fails(t, "Truncate", a.Truncate(low, v), api.OK)
				m.truncate(low, v)
			case 5:
				d.Crash(r.Intn(3) - 1)
				if e := a.Accept(ballot(last, 255), uint32(m.base), command(1)); e != api.ErrPower {
					t.Errorf("Accept without power: %v", e)
				}
				d.Start()
				a = open(t, d, 2, m.now())
			}
			has(t, a, m.now())
			if t.Failed() {
				t.Fatalf("seed %d", seed)
			}
		}
	}
	for _, e := range []api.Errno{api.OK, api.ErrRange, api.ErrFull, api.ErrState} {
		if met[e] < 100 {
			t.Errorf("error %d was met %d times: too few to tell", e, met[e])
		}
	}
}
