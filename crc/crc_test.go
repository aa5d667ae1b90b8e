package crc

import (
	"hash/crc32"
	"math"
	"math/rand"
	"strings"
	"testing"

	"talaria/api"
)

func random(n int) string {
	b := make([]byte, n)
	rand.New(rand.NewSource(int64(n))).Read(b)
	return string(b)
}

// P2.1: known checksums.
func TestSumKnown(t *testing.T) {
	known := map[string]uint32{
		"":                         0,
		"a":                        0xE8B7BE43,
		"123456789":                0xCBF43926,
		"\x00":                     0xD202EF8D,
		"\xff":                     0xFF000000,
		"\x00\x00\x00\x00":         0x2144DF1C,
		"\xff\xff\xff\xff":         0xFFFFFFFF,
		strings.Repeat("\x00", 32): 0x190A55AD,
	}
	for s, want := range known {
		if n := Sum(s); n != want {
			t.Errorf("Sum(%q): %08X, want %08X", s, n, want)
		}
	}
	if n := Sum(); n != 0 {
		t.Errorf("Sum(): %08X", n)
	}
}

// P2.1: the checksum of every byte, and of texts of many lengths.
func TestSumAgreesWithTheStandard(t *testing.T) {
	for b := range 256 {
		s := string([]byte{byte(b)})
		if n, want := Sum(s), crc32.ChecksumIEEE([]byte(s)); n != want {
			t.Errorf("Sum(%q): %08X, want %08X", s, n, want)
		}
	}
	for _, n := range []int{2, 3, 4, 5, 31, 32, 33, 255, 256, 257, 1023, 1024, 70000} {
		s := random(n)
		if n, want := Sum(s), crc32.ChecksumIEEE([]byte(s)); n != want {
			t.Errorf("Sum of %d bytes: %08X, want %08X", len(s), n, want)
		}
	}
}

// P2.1: several texts have the checksum of their concatenation.
func TestSumConcatenates(t *testing.T) {
	s := random(40)
	want := Sum(s)
	for i := range len(s) + 1 {
		for j := i; j <= len(s); j++ {
			if n := Sum(s[:i], s[i:j], s[j:]); n != want {
				t.Fatalf("split at %d and %d: %08X, want %08X", i, j, n, want)
			}
		}
	}
	if Sum("", "", "") != 0 || Sum("a", "b") == Sum("b", "a") {
		t.Error("texts that are empty, or in another order")
	}
	l := []string{"1234", "56789", "spare"}
	if Sum(l[:2]...) != 0xCBF43926 || l[0] != "1234" || l[1] != "56789" || l[2] != "spare" {
		t.Errorf("list: %q", l)
	}
}

// P2.1: the checksum follows the text, the lowest byte first.
func TestSeal(t *testing.T) {
	for s, want := range map[string]string{
		"":          "\x00\x00\x00\x00",
		"a":         "a\x43\xbe\xb7\xe8",
		"123456789": "123456789\x26\x39\xf4\xcb",
	} {
		if x := Seal(s); x != want {
			t.Errorf("Seal(%q): %q, want %q", s, x, want)
		}
	}
}

func open(t *testing.T, s, want string, e api.Errno) {
	t.Helper()
	if x, err := Open(s); x != want || err != e {
		t.Errorf("Open(%q): %q %v, want %q %v", s, x, err, want, e)
	}
}

// P2.1: a sealed text is opened again, also one that has been sealed twice.
func TestOpenSealed(t *testing.T) {
	for n := range 70 {
		s := random(n)
		open(t, Seal(s), s, api.OK)
		open(t, Seal(Seal(s)), Seal(s), api.OK)
	}
	long := random(70000)
	open(t, Seal(long), long, api.OK)
	open(t, "\x00\x00\x00\x00", "", api.OK)
}

// P2.1: fewer than four bytes are ErrShort, whatever they are.
func TestOpenShort(t *testing.T) {
	for n := range 4 {
		open(t, strings.Repeat("\x00", n), "", api.ErrShort)
		open(t, Seal("")[:n], "", api.ErrShort)
		open(t, "abcd"[:n], "", api.ErrShort)
	}
}

// P2.1: bytes that do not end with the checksum of the others are ErrSum.
func TestOpenDiffers(t *testing.T) {
	for _, s := range []string{
		"abcd",
		"\x00\x00\x00\x01",
		"\x01\x00\x00\x00",
		"a\xe8\xb7\xbe\x43", // in big-endian order
		"123456789\xcb\xf4\x39\x26",
		"123456789",
		"a\x43\xbe\xb7\xe8\x00",
		"\x00a\x43\xbe\xb7\xe8",
		"b\x43\xbe\xb7\xe8",
	} {
		open(t, s, "", api.ErrSum)
	}
	s := Seal("some text")
	for i := range len(s) {
		for x := 1; x < 256; x++ {
			b := []byte(s)
			b[i] ^= byte(x)
			open(t, string(b), "", api.ErrSum)
		}
	}
	open(t, s[:len(s)-1], "", api.ErrSum)
	open(t, s[1:], "", api.ErrSum)
}

// P2.2: positions and patterns, written out.
func TestTurnKnown(t *testing.T) {
	for _, x := range []struct {
		s    string
		at   int
		bits uint32
		want string
	}{
		{"a", 1, 1, "c"},
		{"\x00", 0, 1, "\x01"},
		{"\x00", 7, 1, "\x80"},
		{"\x00", 0, 0x80, "\x80"},
		{"\x00\x00", 8, 1, "\x00\x01"},
		{"\x00\x00", 7, 3, "\x80\x01"},
		{"\x00\x00\x00\x00\x00", 0, math.MaxUint32, "\xff\xff\xff\xff\x00"},
		{"\x00\x00\x00\x00\x00", 4, math.MaxUint32, "\xf0\xff\xff\xff\x0f"},
		{"\xff\xff\xff\xff\xff", 8, 0x80000001, "\xff\xfe\xff\xff\x7f"},
		{"\x00\x00\x00\x00", 0, 0x12345678, "\x78\x56\x34\x12"},
		{"ab", 3, 0, "ab"},
		{"", 0, math.MaxUint32, ""},
	} {
		if s := Turn(x.s, x.at, x.bits); s != x.want {
			t.Errorf("Turn(%q, %d, %x): %q, want %q", x.s, x.at, x.bits, s, x.want)
		}
	}
}

// P2.2: bits outside the text are ignored, and only those.
func TestTurnOutside(t *testing.T) {
	for _, x := range []struct {
		at   int
		bits uint32
		want string
	}{
		{-1, 1, "\x00\x00"},
		{-1, 2, "\x01\x00"},
		{-31, math.MaxUint32, "\x01\x00"},
		{-32, math.MaxUint32, "\x00\x00"},
		{-31, 1 << 30, "\x00\x00"},
		{-8, math.MaxUint32, "\xff\xff"},
		{15, math.MaxUint32, "\x00\x80"},
		{15, 2, "\x00\x00"},
		{16, math.MaxUint32, "\x00\x00"},
		{99, math.MaxUint32, "\x00\x00"},
		{math.MaxInt, math.MaxUint32, "\x00\x00"},
		{math.MaxInt - 31, math.MaxUint32, "\x00\x00"},
		{math.MaxInt - 15, math.MaxUint32, "\x00\x00"},
		{math.MinInt, math.MaxUint32, "\x00\x00"},
		{math.MinInt + 16, math.MaxUint32, "\x00\x00"},
		{math.MaxInt32, math.MaxUint32, "\x00\x00"},
		{math.MinInt32, math.MaxUint32, "\x00\x00"},
	} {
		if s := Turn("\x00\x00", x.at, x.bits); s != x.want {
			t.Errorf("Turn at %d, %x: %q, want %q", x.at, x.bits, s, x.want)
		}
	}
}

// turned returns s with bit at + k inverted for each k that is set, one bit after another.
func turned(s string, at int, bits uint32) string {
	b := []byte(s)
	for i := range b {
		for j := range 8 {
			if k := 8*i + j - at; k >= 0 && k < 32 && bits&(1<<k) != 0 {
				b[i] ^= 1 << j
			}
		}
	}
	return string(b)
}

// P2.2: every position of a text, with many patterns; turning twice restores it.
func TestTurnEverywhere(t *testing.T) {
	r := rand.New(rand.NewSource(2))
	for n := range 8 {
		s := random(n)
		for at := -40; at <= 8*n+40; at++ {
			for range 20 {
				bits := r.Uint32()
				x := Turn(s, at, bits)
				if x != turned(s, at, bits) {
					t.Fatalf("Turn(%q, %d, %x): %q", s, at, bits, x)
				}
				if Turn(x, at, bits) != s {
					t.Fatalf("Turn(%q, %d, %x) twice", s, at, bits)
				}
			}
		}
	}
}

// bursts are patterns of inverted bits: each one, each pair, each run, and many others.
func bursts() []uint32 {
	var l []uint32
	for i := range 32 {
		for j := range i + 1 {
			l = append(l, 1<<i|1<<j, uint32(1<<(i-j+1)-1)<<j)
		}
	}
	r := rand.New(rand.NewSource(3))
	for range 500 {
		l = append(l, r.Uint32())
	}
	return append(l, 0xEDB88320, 0x04C11DB7, 0xDB710641)
}

// P2.3: whatever is inverted within 32 consecutive bits of a sealed text, Open detects it.
func TestBursts(t *testing.T) {
	l := bursts()
	for _, n := range []int{0, 1, 2, 3, 4, 5, 9, 33} {
		s := Seal(random(n))
		for at := -31; at < 8*len(s); at++ {
			for _, bits := range l {
				x := Turn(s, at, bits)
				if x == s { // nothing was inverted
					continue
				}
				if got, e := Open(x); got != "" || e != api.ErrSum {
					t.Fatalf("%d bytes, %x inverted at %d: %q %v", n, bits, at, got, e)
				}
			}
		}
	}
}
