package octet

import (
	"encoding/binary"
	"math"
	"math/rand"
	"strings"
	"testing"

	"talaria/api"
)

// strange are sizes that no number has.
var strange = []int{math.MinInt, -8, -1, 0, 9, 16, 64, math.MaxInt}

func join(t *testing.T, want string, l ...Part) {
	t.Helper()
	if s, e := Join(l...); s != want || e != api.OK {
		t.Errorf("Join: %q %v, want %q", s, e, want)
	}
}

func refuse(t *testing.T, want api.Errno, l ...Part) {
	t.Helper()
	if s, e := Join(l...); s != "" || e != want {
		t.Errorf("Join: %q %v, want error %v", s, e, want)
	}
}

// P1.1: a number is encoded in its size, in big-endian order.
func TestJoinNumbers(t *testing.T) {
	join(t, "\x00", Num(0, 1))
	join(t, "\x00\x00\x00\x00\x00\x00\x00\x00", Num(0, 8))
	join(t, "\x01\x02", Num(258, 2))
	join(t, "\x00\x01\x02", Num(258, 3))
	join(t, "\x01\x02\x03\x04\x05\x06\x07\x08", Num(0x0102030405060708, 8))
	for size := 1; size <= 8; size++ {
		greatest := uint64(math.MaxUint64) >> (64 - 8*size)
		join(t, strings.Repeat("\xff", size), Num(greatest, size))
		join(t, "\x80"+strings.Repeat("\x00", size-1), Num(greatest/2+1, size))
		var b [8]byte
		binary.BigEndian.PutUint64(b[:], 0x0123456789abcdef&greatest)
		join(t, string(b[8-size:]), Num(0x0123456789abcdef&greatest, size))
	}
}

// P1.1: a number whose size is invalid, or that does not fit, is ErrRange.
func TestJoinNumbersOutOfRange(t *testing.T) {
	for size := 1; size < 8; size++ {
		greatest := uint64(math.MaxUint64) >> (64 - 8*size)
		refuse(t, api.ErrRange, Num(greatest+1, size))
		refuse(t, api.ErrRange, Num(math.MaxUint64, size))
	}
	for _, size := range strange {
		refuse(t, api.ErrRange, Num(0, size))
		refuse(t, api.ErrRange, Num(1, size))
		refuse(t, api.ErrRange, Num(math.MaxUint64, size))
	}
}

// P1.1: a text is preceded by the number of its bytes, of which there are at most 255.
func TestJoinTexts(t *testing.T) {
	join(t, "\x00", Text(""))
	join(t, "\x01a", Text("a"))
	join(t, "\x03\x00\xff\x80", Text("\x00\xff\x80"))
	join(t, "\xfe"+strings.Repeat("x", 254), Text(strings.Repeat("x", 254)))
	join(t, "\xff"+strings.Repeat("x", 255), Text(strings.Repeat("x", 255)))
	refuse(t, api.ErrLong, Text(strings.Repeat("x", 256)))
	refuse(t, api.ErrLong, Text(strings.Repeat("x", 512)))
	refuse(t, api.ErrLong, Text(strings.Repeat("x", 100000)))
	// Bytes count, not characters.
	join(t, "\x02\u00e9", Text("\u00e9"))
	refuse(t, api.ErrLong, Text(strings.Repeat("\u00e9", 128)))
}

// P1.1: raw bytes stand for themselves, however many there are.
func TestJoinRaw(t *testing.T) {
	join(t, "", Raw(""))
	join(t, "\x00a\xff", Raw("\x00a\xff"))
	long := strings.Repeat("xyz", 30000)
	join(t, long, Raw(long))
}

// P1.1: encodings are concatenated in order.
func TestJoinConcatenates(t *testing.T) {
	join(t, "")
	join(t, "", []Part{}...)
	join(t, "\x01\x02\x01a", Num(258, 2), Text("a"))
	join(t, "xy\x00\x05\x02abz", Raw("xy"), Text(""), Num(5, 1), Text("ab"), Raw("z"))
	p := Text("a")
	join(t, "\x01a\x01a", p, p)
}

// P1.1: the zero Part is ErrArg, wherever it came from.
func TestJoinZero(t *testing.T) {
	refuse(t, api.ErrArg, Part{})
	refuse(t, api.ErrArg, make([]Part, 3)...)
	refuse(t, api.ErrArg, Num(1, 1), Text("a"), Raw("b"), Part{})
}

// P1.1: the first invalid part from the left decides.
func TestJoinFirstError(t *testing.T) {
	invalid := map[api.Errno]Part{
		api.ErrArg:   {},
		api.ErrRange: Num(256, 1),
		api.ErrLong:  Text(strings.Repeat("x", 256)),
	}
	for e, p := range invalid {
		for _, q := range invalid {
			refuse(t, e, p, q)
			refuse(t, e, Raw("a"), p, Num(1, 1), q, Text("b"))
		}
		refuse(t, e, p, Raw("a"))
	}
}

// The list of parts is not modified, its spare capacity included, and can be joined again.
func TestJoinKeepsItsArguments(t *testing.T) {
	l := []Part{Num(1, 1), Text("a"), Raw("spare"), {}}
	before := append([]Part(nil), l...)
	for range 2 {
		join(t, "\x01\x01a", l[:2]...)
	}
	refuse(t, api.ErrArg, l...)
	for i := range l {
		if l[i] != before[i] {
			t.Errorf("part %d: %v, was %v", i, l[i], before[i])
		}
	}
}

// at checks how far a reader is, and what it says.
func at(t *testing.T, r *Reader, left int, end api.Errno) {
	t.Helper()
	for range 2 { // asking changes nothing
		if n, e := r.Left(), r.End(); n != left || e != end {
			t.Errorf("left %d, end %v; want %d, %v", n, e, left, end)
		}
	}
}

func num(t *testing.T, r *Reader, size int, want uint64) {
	t.Helper()
	if n := r.Num(size); n != want {
		t.Errorf("Num(%d): %d, want %d", size, n, want)
	}
}

func str(t *testing.T, got, want string) {
	t.Helper()
	if got != want {
		t.Errorf("%q, want %q", got, want)
	}
}

// stuck checks that nothing more is decoded, and that neither the rest nor the first error changes.
func stuck(t *testing.T, r *Reader, left int, end api.Errno) {
	t.Helper()
	at(t, r, left, end)
	for _, size := range append([]int{1, 2, 8}, strange...) {
		num(t, r, size, 0)
		at(t, r, left, end)
	}
	for _, n := range []int{math.MinInt, -1, 0, 1, 2, math.MaxInt} {
		str(t, r.Raw(n), "")
		at(t, r, left, end)
	}
	str(t, r.Text(), "")
	at(t, r, left, end)
}

// P1.2: parts are decoded in order.
func TestReadParts(t *testing.T) {
	r := Read("\x01\x02\x01axyz")
	at(t, r, 7, api.ErrLong)
	num(t, r, 2, 258)
	at(t, r, 5, api.ErrLong)
	str(t, r.Text(), "a")
	at(t, r, 3, api.ErrLong)
	str(t, r.Raw(2), "xy")
	at(t, r, 1, api.ErrLong)
	str(t, r.Raw(0), "")
	at(t, r, 1, api.ErrLong)
	num(t, r, 1, 'z')
	at(t, r, 0, api.OK)
	str(t, r.Raw(0), "")
	at(t, r, 0, api.OK)
}

// P1.2: numbers of all sizes are decoded in big-endian order.
func TestReadNumbers(t *testing.T) {
	const bytes = "\xf1\x02\x83\x04\xe5\x06\xc7\x08"
	for size := 1; size <= 8; size++ {
		r := Read(bytes)
		num(t, r, size, binary.BigEndian.Uint64([]byte(bytes))>>(64-8*size))
		at(t, r, 8-size, end(8-size))
		r = Read(strings.Repeat("\xff", size))
		num(t, r, size, math.MaxUint64>>(64-8*size))
		at(t, r, 0, api.OK)
	}
}

func end(left int) api.Errno {
	if left > 0 {
		return api.ErrLong
	}
	return api.OK
}

// P1.2: texts and raw bytes of all lengths are decoded.
func TestReadTexts(t *testing.T) {
	for n := 0; n <= 255; n++ {
		x := strings.Repeat("\x80", n)
		r := Read(string([]byte{byte(n)}) + x + "r")
		str(t, r.Text(), x)
		at(t, r, 1, api.ErrLong)
	}
	long := strings.Repeat("xyz", 30000)
	r := Read(long + "r")
	str(t, r.Raw(len(long)), long)
	at(t, r, 1, api.ErrLong)
}

// P1.2: nothing is left of an empty string, and nothing can be decoded.
func TestReadNothing(t *testing.T) {
	at(t, Read(""), 0, api.OK)
	r := Read("")
	num(t, r, 1, 0)
	stuck(t, r, 0, api.ErrShort)
	r = Read("")
	str(t, r.Text(), "")
	stuck(t, r, 0, api.ErrShort)
	r = Read("")
	str(t, r.Raw(1), "")
	stuck(t, r, 0, api.ErrShort)
	r = Read("\x00")
	str(t, r.Text(), "")
	at(t, r, 0, api.OK)
}

// P1.2: an incomplete part is not decoded at all, and nothing after it is.
func TestReadIncomplete(t *testing.T) {
	for size := 2; size <= 8; size++ {
		for have := 1; have < size; have++ {
			r := Read("\x07" + strings.Repeat("\x01", have))
			num(t, r, 1, 7)
			num(t, r, size, 0)
			stuck(t, r, have, api.ErrShort)
		}
	}
	for _, s := range []string{"\x01", "\x02a", "\xff", "\xff" + strings.Repeat("\x00", 254), "\x04\x01\x01\x01"} {
		r := Read("\x07" + s)
		num(t, r, 1, 7)
		str(t, r.Text(), "")
		stuck(t, r, len(s), api.ErrShort)
	}
	for _, n := range []int{4, 5, 256, math.MaxInt} {
		r := Read("\x07\x01\x01\x01")
		num(t, r, 1, 7)
		str(t, r.Raw(n), "")
		stuck(t, r, 3, api.ErrShort)
	}
}

// P1.2: an invalid size or n is ErrForm, also where the part would be incomplete as well.
func TestReadInvalid(t *testing.T) {
	for _, s := range []string{"", "\x00", "\x01a", "\x01\x01\x01\x01\x01\x01\x01\x01\x01\x01"} {
		for _, size := range strange {
			r := Read(s)
			num(t, r, size, 0)
			stuck(t, r, len(s), api.ErrForm)
		}
		for _, n := range []int{math.MinInt, -2, -1} {
			r := Read(s)
			str(t, r.Raw(n), "")
			stuck(t, r, len(s), api.ErrForm)
		}
	}
}

// P1.2: End reports the first error; bytes that are left are no error that stops decoding.
func TestReadFirstError(t *testing.T) {
	r := Read("ab")
	num(t, r, 3, 0)
	num(t, r, 0, 0)
	at(t, r, 2, api.ErrShort)
	r = Read("ab")
	num(t, r, 9, 0)
	num(t, r, 3, 0)
	at(t, r, 2, api.ErrForm)
	r = Read("ab")
	at(t, r, 2, api.ErrLong)
	num(t, r, 2, 'a'<<8|'b')
	at(t, r, 0, api.OK)
	num(t, r, 1, 0)
	at(t, r, 0, api.ErrShort)
}

// P1.2: a nil reader answers ErrArg, whatever was asked of it.
func TestReadNil(t *testing.T) {
	var r *Reader
	stuck(t, r, 0, api.ErrArg)
}

// Readers of one string are independent of each other.
func TestReadTwice(t *testing.T) {
	const s = "\x01a\x02"
	r, o := Read(s), Read(s)
	num(t, r, 4, 0)
	at(t, o, 3, api.ErrLong)
	str(t, o.Text(), "a")
	at(t, r, 3, api.ErrShort)
	num(t, o, 1, 2)
	at(t, o, 0, api.OK)
}

// P1.1 and P1.2: what is joined is read again, part by part.
func TestReadWhatWasJoined(t *testing.T) {
	random := rand.New(rand.NewSource(1))
	for range 500 {
		var l []Part
		for range random.Intn(9) {
			l = append(l, some(random))
		}
		s, e := Join(l...)
		if e != api.OK {
			t.Fatal(e)
		}
		r := Read(s)
		for _, p := range l {
			at(t, r, r.Left(), end(r.Left()))
			switch p.kind {
			case number:
				num(t, r, p.size, p.n)
			case text:
				str(t, r.Text(), p.s)
			case raw:
				str(t, r.Raw(len(p.s)), p.s)
			}
		}
		at(t, r, 0, api.OK)
	}
}

func some(random *rand.Rand) Part {
	size := 1 + random.Intn(8)
	b := make([]byte, random.Intn(256))
	random.Read(b)
	return []Part{Num(random.Uint64()>>(64-8*size), size), Text(string(b)), Raw(string(b))}[random.Intn(3)]
}
