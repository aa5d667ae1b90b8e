package journal

import (
	"encoding/binary"
	"hash/crc32"
	"math"
	"math/rand"
	"slices"
	"strings"
	"testing"

	"talaria/api"
	"talaria/disk"
)

var (
	long    = strings.Repeat("x", api.MaxRecord)
	tooLong = []string{long + "x", strings.Repeat("x", 1<<16+1), strings.Repeat("x", api.MaxDisk+1)}
)

// encoded returns what the chapter calls the encoding of a record, and does so for records of other lengths too.
func encoded(record string) string {
	b := binary.BigEndian.AppendUint16(nil, uint16(len(record)))
	b = append(b, record...)
	return string(binary.LittleEndian.AppendUint32(b, crc32.ChecksumIEEE(b)))
}

// all returns the encodings of records, one behind the other.
func all(l ...string) string {
	var s strings.Builder
	for _, x := range l {
		s.WriteString(encoded(x))
	}
	return s.String()
}

// fails checks what a call returned.
func fails(t *testing.T, what string, got, want api.Errno) {
	t.Helper()
	if got != want {
		t.Errorf("%s: %v, want %v", what, got, want)
	}
}

// open returns the journal of a disk, and checks its records.
func open(t *testing.T, d *disk.Disk, want ...string) *Journal {
	t.Helper()
	j, e := Open(d)
	if j == nil || e != api.OK {
		t.Fatalf("Open: %v %v", j, e)
	}
	has(t, j, want...)
	return j
}

// has checks the records of a journal.
func has(t *testing.T, j *Journal, want ...string) {
	t.Helper()
	if l := j.Records(); !slices.Equal(l, want) {
		t.Errorf("Records: %.40q (%d), want %.40q (%d)", l, len(l), want, len(want))
	}
}

// contains checks all bytes of a disk.
func contains(t *testing.T, d *disk.Disk, want string) {
	t.Helper()
	if s, e := d.Read(); s != want || e != api.OK {
		t.Errorf("the disk has %.80q (%d bytes) %v, want %.80q (%d bytes)", s, len(s), e, want, len(want))
	}
}

// remains checks that all bytes of a disk are durable.
func remains(t *testing.T, d *disk.Disk, want string) {
	t.Helper()
	contains(t, d, want)
	d.Crash(0)
	d.Start()
	contains(t, d, want)
}

// add adds records to a journal.
func add(t *testing.T, j *Journal, l ...string) {
	t.Helper()
	for _, s := range l {
		fails(t, "Add", j.Add(s), api.OK)
	}
}

// written returns a disk with these bytes, none of them durable.
func written(t *testing.T, s string) *disk.Disk {
	t.Helper()
	d := disk.New()
	fails(t, "Append", d.Append(s), api.OK)
	return d
}

// finds checks that Open of a disk with these bytes finds just these records, and cuts what is behind them; and that the journal can be used then.
func finds(t *testing.T, s string, want ...string) {
	t.Helper()
	d := written(t, s)
	j := open(t, d, want...)
	remains(t, d, all(want...))
	add(t, j, "more")
	want = append(slices.Clone(want), "more")
	has(t, j, want...)
	remains(t, d, all(want...))
	open(t, d, want...)
}

// P10.1, P10.2: the example of the chapter.
func TestExample(t *testing.T) {
	d := disk.New()
	j := open(t, d)
	fails(t, "Add", j.Add("a"), api.OK)
	fails(t, "Add", j.Add("b"), api.OK)
	open(t, d, "a", "b")
}

// P10.2: the bytes of the disk are the encodings of the records: the length, the bytes, and the checksum of both.
func TestEncoding(t *testing.T) {
	d := disk.New()
	j := open(t, d)
	want := ""
	for _, x := range []struct{ record, bytes string }{
		{"a", "\x00\x01a\x9d\xb9\xef\xdc"},
		{"b", "\x00\x01b\x27\xe8\xe6\x45"},
		{"abc", "\x00\x03abc\x23\xc0\xf2\x1e"},
		{"123456789", "\x00\x09123456789\xae\xb7\x6f\xba"},
	} {
		add(t, j, x.record)
		want += x.bytes
		contains(t, d, want)
	}
	for _, n := range []int{1, 2, 255, 256, 257, 258, api.MaxRecord - 1, api.MaxRecord} {
		add(t, j, long[:n])
		want += encoded(long[:n])
		contains(t, d, want)
	}
	if s := encoded(long); s[:2] != "\x02\x00" || len(s) != api.MaxRecord+6 {
		t.Errorf("%q", s)
	}
}

// P10.1: without a disk there is no journal.
func TestOpenNil(t *testing.T) {
	if j, e := Open(nil); j != nil || e != api.ErrArg {
		t.Errorf("Open: %v %v", j, e)
	}
}

// P10.1: without power there is no journal, and nothing is cut.
func TestOpenWithoutPower(t *testing.T) {
	s := all("a", "b") + "rest"
	d := written(t, s)
	d.Crash(len(s))
	for range 2 {
		if j, e := Open(d); j != nil || e != api.ErrPower {
			t.Errorf("Open: %v %v", j, e)
		}
	}
	if d.On() {
		t.Error("Open switched the power on")
	}
	d.Start()
	contains(t, d, s)
	open(t, d, "a", "b")
}

// P10.1: a disk without any bytes has no records.
func TestOpenEmpty(t *testing.T) {
	d := disk.New()
	open(t, d)
	contains(t, d, "")
	finds(t, "")
}

// P10.1: all records are found, whatever bytes they have, in their order.
func TestOpen(t *testing.T) {
	for _, l := range [][]string{
		{"a"},
		{"a", "b"},
		{"b", "a", "b", "b"},
		{"\x00", "\xff", "\x00\x00", "\n", "é", "\x00\x01"},
		{long},
		{long, "a", long, long[:api.MaxRecord-1], long[:256], long[:255]},
		{encoded("a"), "b", all("a", "b")},
	} {
		finds(t, all(l...), l...)
	}
}

// P10.1: bytes that are no record, or that do not make one complete, are cut; at each place within a record.
func TestOpenWithinARecord(t *testing.T) {
	for _, record := range []string{"a", "bcd", "\x00\x00\x00\x00\x00\x00\x00", long[:300], long} {
		s := encoded(record)
		for n := range len(s) {
			finds(t, s[:n])
			if n < 12 || n > len(s)-6 {
				finds(t, all("a", "bc")+s[:n], "a", "bc")
			}
		}
		finds(t, s, record)
	}
}

// P10.1: a record with a wrong checksum is none, whichever bit is wrong, and what is behind it is cut with it.
func TestOpenWithAWrongBit(t *testing.T) {
	bad := encoded("bcd")
	for i := range len(bad) {
		for k := range 8 {
			b := []byte(bad)
			b[i] ^= 1 << k
			finds(t, string(b))
			finds(t, string(b)+all("e", "f"))
			finds(t, all("a")+string(b)+all("e", long), "a")
		}
	}
}

// P10.1: a checksum in the other order, of the bytes alone, or of another record is wrong.
func TestOpenWithAWrongChecksum(t *testing.T) {
	sum := func(s string) string {
		return string(binary.LittleEndian.AppendUint32(nil, crc32.ChecksumIEEE([]byte(s))))
	}
	other := string(binary.BigEndian.AppendUint32(nil, crc32.ChecksumIEEE([]byte("\x00\x01b"))))
	for _, bad := range []string{
		"\x00\x01b" + other,
		"\x00\x01b" + sum("b"),
		"\x00\x01b" + sum("\x00\x01a"),
		"\x01\x00b" + sum("\x01\x00b"),
		"\x00\x01b" + "\x00\x00\x00\x00",
		"\x00\x01b" + "\xff\xff\xff\xff",
	} {
		finds(t, bad)
		finds(t, all("a")+bad+all("c"), "a")
	}
}

// P10.1: a record of no bytes is none, although its checksum is right, and what is behind it is cut with it.
func TestOpenWithAnEmptyRecord(t *testing.T) {
	finds(t, encoded(""))
	finds(t, encoded("")+all("b"))
	finds(t, all("a")+encoded("")+all("b", "c"), "a")
	finds(t, "\x00\x00\x00\x00\x00\x00\x00\x00\x00")
}

// P10.1: a record of more than MaxRecord bytes is none, although its checksum is right, and what is behind it is cut with it.
func TestOpenWithALongRecord(t *testing.T) {
	for _, n := range []int{api.MaxRecord + 1, api.MaxRecord + 2, 2 * api.MaxRecord, 1<<16 - 1} {
		s := encoded(strings.Repeat("x", n))
		finds(t, s)
		finds(t, s+all("b"))
		finds(t, all("a", long)+s+all("b", "c"), "a", long)
	}
}

// P10.1: the records of a full disk are found, and what fills it behind them is cut.
func TestOpenOfAFullDisk(t *testing.T) {
	l := slices.Repeat([]string{long}, 100)
	s := all(l...)
	finds(t, s+strings.Repeat("\x00", api.MaxDisk-len(s)), l...)
	finds(t, s+strings.Repeat("\xff", api.MaxDisk-len(s)), l...)
	finds(t, strings.Repeat("\x00", api.MaxDisk))
}

// P10.1: after Open the records are durable, also those that were not before.
func TestOpenIsDurable(t *testing.T) {
	for _, rest := range []string{"", "\x00", "rest"} {
		d := written(t, all("a", "b")+rest)
		open(t, d, "a", "b")
		remains(t, d, all("a", "b"))
		open(t, d, "a", "b")
	}
}

// P10.1: opening a disk again changes nothing.
func TestOpenAgain(t *testing.T) {
	d := written(t, all("a", "b")+"rest")
	for range 3 {
		open(t, d, "a", "b")
		contains(t, d, all("a", "b"))
	}
}

// P10.1: Records returns the records that were found, and those added since, behind them.
func TestRecords(t *testing.T) {
	j := open(t, written(t, all("a", "b")), "a", "b")
	want := []string{"a", "b"}
	for _, s := range []string{"c", "a", "c", "\x00\xff", long, "a"} {
		add(t, j, s)
		want = append(want, s)
		has(t, j, want...)
		has(t, j, want...)
	}
}

// P10.1: each answer of Records is a list of its own, that does not change and whose change is not seen.
func TestRecordsAreNew(t *testing.T) {
	j := open(t, written(t, all("a", "b", "c")), "a", "b", "c")
	for range 20 {
		l := j.Records()
		before := slices.Clone(l)
		_ = append(l[:1], "x", "y")
		l = append(l, "z")
		for i := range l {
			l[i] = "changed"
		}
		has(t, j, before...)
		add(t, j, "d")
		has(t, j, append(before, "d")...)
		for _, s := range l {
			if s != "changed" {
				t.Errorf("%q in a list that was returned", s)
			}
		}
	}
}

// P10.1, P10.2: without a journal there are no records and nothing can be added.
func TestNil(t *testing.T) {
	var j *Journal
	for _, s := range append([]string{"", "a", long}, tooLong...) {
		fails(t, "Add", j.Add(s), api.ErrArg)
		if l := j.Records(); len(l) != 0 {
			t.Errorf("Records: %q", l)
		}
	}
}

// P10.2: Add makes a record the last one, at once durable, of 1 to MaxRecord bytes.
func TestAdd(t *testing.T) {
	d := disk.New()
	var want []string
	for _, s := range []string{"a", "b", "a", "\x00", "\xff\xff", "é", encoded("a"), long[:256], long[:api.MaxRecord-1], long, "z"} {
		j := open(t, d, want...)
		want = append(want, s)
		add(t, j, s)
		has(t, j, want...)
		remains(t, d, all(want...))
	}
	open(t, d, want...)
}

// P10.2: each of many Adds of one journal is durable.
func TestAddIsDurable(t *testing.T) {
	d := disk.New()
	j := open(t, d)
	var want []string
	for _, s := range []string{"a", "bc", long, "d"} {
		add(t, j, s)
		want = append(want, s)
		remains(t, d, all(want...))
		has(t, j, want...)
	}
}

// P10.2: a record of no bytes, or of more than MaxRecord, is refused; nothing is written, and the journal goes on.
func TestAddOfAnInvalidRecord(t *testing.T) {
	d := disk.New()
	j := open(t, d)
	want := []string{}
	for _, s := range []string{"a", long, "b"} {
		fails(t, "Add of nothing", j.Add(""), api.ErrArg)
		for _, x := range tooLong {
			fails(t, "Add of too much", j.Add(x), api.ErrLong)
		}
		has(t, j, want...)
		contains(t, d, all(want...))
		add(t, j, s)
		want = append(want, s)
		has(t, j, want...)
		contains(t, d, all(want...))
	}
	open(t, d, want...)
}

// refuses checks that a journal whose disk has failed adds nothing; what is wrong with the record comes first.
func refuses(t *testing.T, j *Journal) {
	t.Helper()
	for range 2 {
		fails(t, "Add after an error", j.Add("x"), api.ErrState)
		fails(t, "Add of nothing after an error", j.Add(""), api.ErrArg)
		for _, x := range tooLong {
			fails(t, "Add of too much after an error", j.Add(x), api.ErrLong)
		}
		fails(t, "Add of much after an error", j.Add(long), api.ErrState)
	}
}

// P10.2: Add after a power failure returns ErrPower, and from then on ErrState, also with power again; the journal keeps its records, and another one can be opened.
func TestAddWithoutPower(t *testing.T) {
	d := disk.New()
	j := open(t, d)
	add(t, j, "a", "b")
	d.Crash(0)
	fails(t, "Add of nothing", j.Add(""), api.ErrArg)
	fails(t, "Add of too much", j.Add(long+"x"), api.ErrLong)
	has(t, j, "a", "b")
	fails(t, "Add", j.Add("c"), api.ErrPower)
	has(t, j, "a", "b")
	refuses(t, j)
	d.Start()
	refuses(t, j)
	has(t, j, "a", "b")
	contains(t, d, all("a", "b"))

	j = open(t, d, "a", "b")
	add(t, j, "d")
	has(t, j, "a", "b", "d")
	open(t, d, "a", "b", "d")
}

// P10.2: a power failure that no Add has met, and a record that was refused for itself, are no errors of the disk.
func TestAddAfterAPowerFailure(t *testing.T) {
	d := disk.New()
	j := open(t, d)
	add(t, j, "a")
	d.Crash(0)
	fails(t, "Add of nothing", j.Add(""), api.ErrArg)
	fails(t, "Add of too much", j.Add(long+"x"), api.ErrLong)
	d.Start()
	add(t, j, "b")
	has(t, j, "a", "b")
	remains(t, d, all("a", "b"))
	open(t, d, "a", "b")
}

// P10.2: an error of one disk is none of another one.
func TestAddToAnotherDisk(t *testing.T) {
	d, o := disk.New(), disk.New()
	j, k := open(t, d), open(t, o)
	d.Crash(0)
	fails(t, "Add without power", j.Add("a"), api.ErrPower)
	add(t, k, "b")
	refuses(t, j)
	has(t, j)
	has(t, k, "b")
	contains(t, o, all("b"))
}

// full returns a disk full of records, but for some bytes, and these records.
func full(t *testing.T) (d *disk.Disk, j *Journal, l []string, free int) {
	t.Helper()
	size := len(encoded(long))
	l = slices.Repeat([]string{long}, api.MaxDisk/size)
	d = written(t, all(l...))
	return d, open(t, d, l...), l, api.MaxDisk % size
}

// P10.2: a record for which the disk has no room is not written at all; after that error nothing is, until the disk is opened again.
func TestAddToAFullDisk(t *testing.T) {
	d, j, l, free := full(t)
	fits := long[:free-len(encoded(""))]
	fails(t, "Add of one byte too much", j.Add(fits+"x"), api.ErrFull)
	has(t, j, l...)
	contains(t, d, all(l...))
	fails(t, "Add of what there is room for", j.Add(fits), api.ErrState)
	refuses(t, j)
	contains(t, d, all(l...))

	j = open(t, d, l...)
	fails(t, "Add of MaxRecord bytes", j.Add(long), api.ErrFull)
	refuses(t, j)

	j = open(t, d, l...)
	add(t, j, fits)
	l = append(l, fits)
	has(t, j, l...)
	if s, e := d.Read(); len(s) != api.MaxDisk || e != api.OK {
		t.Errorf("%d bytes on the full disk, %v", len(s), e)
	}
	fails(t, "Add to a full disk", j.Add("a"), api.ErrFull)
	refuses(t, j)
	has(t, j, l...)
	remains(t, d, all(l...))
	open(t, d, l...)
}

// P10.2: a disk that was full and is wiped has room for records again, for a journal that is opened on it.
func TestAddAfterAWipe(t *testing.T) {
	d, j, _, _ := full(t)
	fails(t, "Add to a full disk", j.Add(long), api.ErrFull)
	d.Wipe()
	refuses(t, j)
	j = open(t, d)
	add(t, j, "a")
	open(t, d, "a")
}

// P10.3: the power fails during an Add that is the first, the second or a later one, before or after it wrote, and a part of what it wrote is kept: the records before it are found, and the record itself only if all of it is there.
func TestPowerFailureDuringAdd(t *testing.T) {
	before := []string{"a", "\x00\x00", long, "bcd"}
	for n := range len(before) + 1 {
		for _, record := range []string{"a", "\x00\x00\x00", "bcd", encoded("e"), long} {
			s := encoded(record)
			keep := []int{math.MinInt, -1, len(s) + 1, math.MaxInt}
			for k := range len(s) + 1 {
				keep = append(keep, k)
			}
			for _, k := range keep {
				d := disk.New()
				add(t, open(t, d), before[:n]...)
				fails(t, "what Add does first", d.Append(s), api.OK)
				d.Crash(k)
				d.Start()
				want := slices.Clone(before[:n])
				if k >= len(s) {
					want = append(want, record)
				}
				j := open(t, d, want...)
				want = append(want, "more")
				add(t, j, "more")
				d.Crash(0)
				d.Start()
				open(t, d, want...)
			}
		}
	}
}

// P10.3: the power fails again and again, during Adds and between them, and now and then directly after a disk was opened: no record that was added is lost, and none comes that was not being added.
func TestPowerFailures(t *testing.T) {
	r := rand.New(rand.NewSource(10))
	some := func() string {
		b := make([]byte, 1+r.Intn(20))
		for i := range b {
			b[i] = byte(r.Intn(3)) * 127
		}
		return string(b)
	}
	for range 100 {
		d := disk.New()
		var want []string
		for range 20 {
			j := open(t, d, want...)
			for range r.Intn(4) {
				s := some()
				add(t, j, s)
				want = append(want, s)
			}
			if r.Intn(3) > 0 {
				record := some()
				s := encoded(record)
				keep := r.Intn(len(s) + 1)
				fails(t, "what Add does first", d.Append(s), api.OK)
				d.Crash(keep)
				if keep == len(s) {
					want = append(want, record)
				}
			} else {
				d.Crash(r.Intn(3) - 1)
			}
			if r.Intn(2) == 0 {
				fails(t, "Add without power", j.Add(some()), api.ErrPower)
			}
			d.Start()
		}
		open(t, d, want...)
		remains(t, d, all(want...))
		if t.Failed() {
			return
		}
	}
}
