package frame

import (
	"encoding/binary"
	"hash/crc32"
	"math"
	"math/rand"
	"reflect"
	"slices"
	"strings"
	"testing"

	"talaria/api"
	"talaria/mark"
	"talaria/register"
	"talaria/view"
)

// The types have the fields of the chapter, and only these: otherwise this does not compile.
var (
	_ = struct {
		Kind, From, To uint8
	}(Head{})
	_ = struct {
		Slot    uint32
		Ballot  mark.Ballot
		Command view.Command
	}(Entry{})
	_ = struct {
		Head
		Epoch     uint32
		Key       uint8
		Stamp     mark.Stamp
		Value     register.Value
		RMW, Flag bool
		Dir, Life uint8
		Req       uint32
		Ballot    mark.Ballot
		Slot      uint32
		Command   view.Command
		View      view.View
		Entries   []Entry
	}(Frame{})
)

var full = strings.Repeat("x", api.MaxText)

func has(s string) register.Value { return register.Value{Has: true, Text: s} }

func ballot(n uint32, by uint8) mark.Ballot { return mark.Ballot{Mark: mark.Mark{N: n, By: by}} }

// seal adds the checksum of layer 2, as the library computes it.
func seal(s string) string {
	return string(binary.LittleEndian.AppendUint32([]byte(s), crc32.ChecksumIEEE([]byte(s))))
}

// whole is a frame in which every field differs from zero, and each number has bytes that no other one has.
func whole(kind uint8) Frame {
	return Frame{
		Head:    Head{Kind: kind, From: 0x12, To: 0x13},
		Epoch:   0x01020304,
		Key:     5,
		Stamp:   mark.Stamp{Mark: mark.Mark{N: 0x21222324, By: 0x25}, Life: 0x26},
		Value:   has("abc"),
		RMW:     true,
		Flag:    true,
		Dir:     0x31,
		Life:    0x32,
		Req:     0x33343536,
		Ballot:  ballot(0x41424344, 0x45),
		Slot:    0x51525354,
		Command: view.Command{Kind: 0x61, Node: 0x62, Life: 0x63, Epoch: 0x64656667, Req: 0x68696a6b},
		View: view.View{
			Epoch:   0x71727374,
			Members: []view.Member{{Node: 0x75, Life: 0x76, Ready: true}, {Node: 0x77, Life: 0x78}},
			Lives:   [api.MaxNodes]uint8{0x79, 0x7a, 0x7b, 0x7c, 0x7d, 0x7e, 0x7f, 0x80},
		},
		Entries: []Entry{
			{Slot: 0x81828384, Ballot: ballot(0x85868788, 0x89), Command: view.Command{Kind: 0x8a, Node: 0x8b, Life: 0x8c, Epoch: 0x8d8e8f90, Req: 0x91929394}},
			{Slot: 0xa1a2a3a4, Ballot: ballot(0xa5a6a7a8, 0xa9), Command: view.Command{Kind: 0xaa, Node: 0xab, Life: 0xac, Epoch: 0xadaeafb0, Req: 0xb1b2b3b4}},
		},
	}
}

// The encodings of whole's fields, as the chapter describes them.
const (
	epochText   = "\x01\x02\x03\x04"
	keyText     = "\x05"
	stampText   = "\x21\x22\x23\x24\x25\x26"
	valueText   = "\x01\x03abc"
	flagText    = "\x01"
	dirText     = "\x31"
	lifeText    = "\x32"
	reqText     = "\x33\x34\x35\x36"
	ballotText  = "\x41\x42\x43\x44\x45"
	slotText    = "\x51\x52\x53\x54"
	commandText = "\x61\x62\x63\x64\x65\x66\x67\x68\x69\x6a\x6b"
	viewText    = "\x71\x72\x73\x74\x02\x75\x76\x01\x77\x78\x00\x79\x7a\x7b\x7c\x7d\x7e\x7f\x80"
	entriesText = "\x02" +
		"\x81\x82\x83\x84\x85\x86\x87\x88\x89\x8a\x8b\x8c\x8d\x8e\x8f\x90\x91\x92\x93\x94" +
		"\xa1\xa2\xa3\xa4\xa5\xa6\xa7\xa8\xa9\xaa\xab\xac\xad\xae\xaf\xb0\xb1\xb2\xb3\xb4"
)

// layout of a kind: the encoding of whole's fields, and which fields these are.
type layout struct {
	kind uint8
	text string
	keep func(f, from *Frame) // copies the fields of the kind
}

// layouts are the rows of the chapter's table.
var layouts = []layout{
	{Inv, epochText + keyText + stampText + valueText + flagText + dirText, func(f, o *Frame) {
		f.Epoch, f.Key, f.Stamp, f.Value, f.RMW, f.Dir = o.Epoch, o.Key, o.Stamp, o.Value, o.RMW, o.Dir
	}},
	{Ack, epochText + keyText + stampText + flagText, func(f, o *Frame) {
		f.Epoch, f.Key, f.Stamp, f.Flag = o.Epoch, o.Key, o.Stamp, o.Flag
	}},
	{Val, epochText + keyText + stampText, func(f, o *Frame) { f.Epoch, f.Key, f.Stamp = o.Epoch, o.Key, o.Stamp }},
	{Need, epochText + keyText, func(f, o *Frame) { f.Epoch, f.Key = o.Epoch, o.Key }},
	{Give, epochText + keyText + stampText + valueText + flagText + flagText, func(f, o *Frame) {
		f.Epoch, f.Key, f.Stamp, f.Value, f.RMW, f.Flag = o.Epoch, o.Key, o.Stamp, o.Value, o.RMW, o.Flag
	}},
	{Hello, epochText + lifeText + reqText + flagText, func(f, o *Frame) {
		f.Epoch, f.Life, f.Req, f.Flag = o.Epoch, o.Life, o.Req, o.Flag
	}},
	{News, viewText, func(f, o *Frame) { f.View = o.View }},
	{Lease, epochText + lifeText + reqText, func(f, o *Frame) { f.Epoch, f.Life, f.Req = o.Epoch, o.Life, o.Req }},
	{Prepare, ballotText + slotText, func(f, o *Frame) { f.Ballot, f.Slot = o.Ballot, o.Slot }},
	{Promise, ballotText + slotText + entriesText, func(f, o *Frame) {
		f.Ballot, f.Slot, f.Entries = o.Ballot, o.Slot, o.Entries
	}},
	{Refuse, ballotText, func(f, o *Frame) { f.Ballot = o.Ballot }},
	{Accept, ballotText + slotText + commandText, func(f, o *Frame) {
		f.Ballot, f.Slot, f.Command = o.Ballot, o.Slot, o.Command
	}},
	{Accepted, ballotText + slotText, func(f, o *Frame) { f.Ballot, f.Slot = o.Ballot, o.Slot }},
	{Decide, slotText + commandText, func(f, o *Frame) { f.Slot, f.Command = o.Slot, o.Command }},
	{Have, slotText + flagText, func(f, o *Frame) { f.Slot, f.Flag = o.Slot, o.Flag }},
	{Snap, slotText + viewText, func(f, o *Frame) { f.Slot, f.View = o.Slot, o.View }},
}

// body returns the layout's encoding of whole, without the checksum.
func (l layout) body() string { return string([]byte{l.kind, 0x12, 0x13}) + l.text }

// only returns f with the fields of its kind.
func (l layout) only(f Frame) Frame {
	kept := Frame{Head: f.Head}
	l.keep(&kept, &f)
	return kept
}

// The kinds have the numbers of the chapter, which lists 16 of them.
func TestKinds(t *testing.T) {
	for i, l := range layouts {
		if int(l.kind) != i+1 {
			t.Errorf("kind %d, want %d", l.kind, i+1)
		}
	}
	if len(layouts) != 16 {
		t.Errorf("%d kinds", len(layouts))
	}
}

func encodes(t *testing.T, f Frame, body string) {
	t.Helper()
	if s, e := Encode(f); s != seal(body) || e != api.OK {
		t.Errorf("%+v: %x %v, want %x", f, s, e, seal(body))
	}
}

func decodes(t *testing.T, body string, want Frame) {
	t.Helper()
	f, e := Decode(seal(body))
	if e != api.OK || !reflect.DeepEqual(normal(f), normal(want)) {
		t.Errorf("%x: %+v %v, want %+v", body, f, e, want)
	}
}

// normal returns f with nil for empty lists, which are the same.
func normal(f Frame) Frame {
	if len(f.View.Members) == 0 {
		f.View.Members = nil
	}
	if len(f.Entries) == 0 {
		f.Entries = nil
	}
	return f
}

func refuses(t *testing.T, f Frame) {
	t.Helper()
	if s, e := Encode(f); s != "" || e != api.ErrForm {
		t.Errorf("%+v: %x %v, want error 4", f, s, e)
	}
}

// fails checks that bytes, with their checksum, are not decoded.
func fails(t *testing.T, body string, want api.Errno) {
	t.Helper()
	broken(t, seal(body), want)
}

func broken(t *testing.T, s string, want api.Errno) {
	t.Helper()
	f, e := Decode(s)
	if e != want || !reflect.DeepEqual(f, Frame{}) {
		t.Errorf("%x: %+v %v, want error %v", s, f, e, want)
	}
}

// P6.1: each kind has the fields of the table in its order; those that it does not have are omitted.
func TestEncode(t *testing.T) {
	for _, l := range layouts {
		f := whole(l.kind)
		encodes(t, f, l.body())
		encodes(t, l.only(f), l.body())
	}
}

// P6.2: each kind is decoded, with only its own fields.
func TestDecode(t *testing.T) {
	for _, l := range layouts {
		decodes(t, l.body(), l.only(whole(l.kind)))
	}
}

// P6.1: a frame of zeros is valid, of every kind, and so is one whose numbers are all at their greatest.
func TestExtremes(t *testing.T) {
	greatest := Frame{
		Head:    Head{From: 255, To: 255},
		Epoch:   math.MaxUint32,
		Key:     api.Keys - 1,
		Stamp:   mark.Stamp{Mark: mark.Mark{N: math.MaxUint32, By: 255}, Life: 255},
		Value:   has(strings.Repeat("\xff", api.MaxText)),
		RMW:     true,
		Flag:    true,
		Dir:     255,
		Life:    255,
		Req:     math.MaxUint32,
		Ballot:  ballot(math.MaxUint32, 255),
		Slot:    math.MaxUint32,
		Command: view.Command{Kind: 255, Node: 255, Life: 255, Epoch: math.MaxUint32, Req: math.MaxUint32},
		View:    view.View{Epoch: math.MaxUint32, Members: members(api.MaxNodes)},
		Entries: entries(api.MaxEntries),
	}
	for _, l := range layouts {
		for _, f := range []Frame{{}, greatest} {
			f.Kind = l.kind
			s, e := Encode(f)
			if e != api.OK || len(s) > api.MaxFrame {
				t.Errorf("%+v: %d bytes, error %v", f, len(s), e)
			}
			g, e := Decode(s)
			if e != api.OK || !Same(g, l.only(f)) {
				t.Errorf("%+v: %+v %v", f, g, e)
			}
		}
	}
	encodes(t, Frame{Head: Head{Kind: Need, From: 17, To: 18}}, "\x04\x11\x12\x00\x00\x00\x00\x00")
	encodes(t, Frame{Head: Head{Kind: News}}, "\x07\x00\x00\x00\x00\x00\x00\x00\x00\x00\x00\x00\x00\x00\x00\x00")
	encodes(t, Frame{Head: Head{Kind: Promise}}, "\x0a\x00\x00"+strings.Repeat("\x00", 10))
}

// members returns so many members, of which every other one is ready.
func members(n int) []view.Member {
	var l []view.Member
	for i := range n {
		l = append(l, view.Member{Node: uint8(i + 1), Life: uint8(i + 7), Ready: i%2 == 0})
	}
	return l
}

// entries returns so many entries.
func entries(n int) []Entry {
	var l []Entry
	for i := range n {
		l = append(l, Entry{Slot: uint32(i + 1), Ballot: ballot(uint32(i+2), 3), Command: view.Command{Kind: uint8(i), Req: 9}})
	}
	return l
}

// P6.1 and P6.2: there are no kinds but 1 to 16.
func TestUnknownKinds(t *testing.T) {
	for kind := range 256 {
		if kind >= Inv && kind <= Snap {
			continue
		}
		refuses(t, Frame{Head: Head{Kind: uint8(kind)}})
		refuses(t, whole(uint8(kind)))
		fails(t, string([]byte{byte(kind), 1, 2}), api.ErrForm)
		fails(t, string([]byte{byte(kind), 1, 2})+viewText, api.ErrForm)
	}
}

// P6.1: a Key is less than Keys, in the kinds that have one; in others it does not count.
func TestKeys(t *testing.T) {
	for _, l := range layouts {
		for key := range 256 {
			f := whole(l.kind)
			f.Key = uint8(key)
			if isOneOf(l.kind, Inv, Ack, Val, Need, Give) && key >= api.Keys {
				refuses(t, f)
				fails(t, l.body()[:7]+string([]byte{byte(key)})+l.body()[8:], api.ErrForm)
			} else {
				encodes(t, f, strings.Replace(l.body(), "\x04\x05", string([]byte{4, byte(key)}), 1))
			}
		}
	}
}

// P6.1: a Text of a Value has at most MaxText bytes, and none without Has, in the kinds that have one; in others it does not count.
func TestValues(t *testing.T) {
	for _, l := range layouts {
		given := l.kind == Inv || l.kind == Give
		for _, v := range []register.Value{
			has(full + "x"), has(strings.Repeat("x", 255)), has(strings.Repeat("x", 256)), has(strings.Repeat("x", 288)),
			has(strings.Repeat("é", api.MaxText/2) + "x"), {Text: "a"}, {Text: "\x00"}, {Text: full}, {Text: full + "x"},
		} {
			f := whole(l.kind)
			f.Value = v
			if given {
				refuses(t, f)
			} else {
				encodes(t, f, l.body())
			}
		}
		for _, v := range []register.Value{{}, has(""), has("a"), has(full), has("\x00\xff"), has(strings.Repeat("é", api.MaxText/2))} {
			f := whole(l.kind)
			f.Value = v
			text := string([]byte{0, byte(len(v.Text))}) + v.Text
			if v.Has {
				text = "\x01" + text[1:]
			}
			body := strings.Replace(l.body(), valueText, text, 1)
			encodes(t, f, body)
			decodes(t, body, l.only(f))
		}
	}
}

// P6.1: a View has at most MaxNodes members, in the kinds that have one; in others it does not count.
func TestMembers(t *testing.T) {
	for _, l := range layouts {
		for _, n := range []int{0, 1, 2, 7, api.MaxNodes, api.MaxNodes + 1, 100, 255, 256, 257, 264, 1000} {
			f := whole(l.kind)
			f.View.Members = members(n)
			text := viewText[:4] + string([]byte{byte(n)})
			for _, m := range members(n) {
				text += string([]byte{m.Node, m.Life, m.Node % 2})
			}
			body := strings.Replace(l.body(), viewText, text+viewText[11:], 1)
			switch given := l.kind == News || l.kind == Snap; {
			case !given:
				encodes(t, f, l.body())
			case n <= api.MaxNodes:
				encodes(t, f, body)
				decodes(t, body, l.only(f))
			default:
				refuses(t, f)
			}
			if n > api.MaxNodes && n < 256 && (l.kind == News || l.kind == Snap) {
				fails(t, body, api.ErrForm)
			}
		}
	}
}

// P6.1: there are at most MaxEntries entries, in the kind that has them; in others they do not count.
func TestEntries(t *testing.T) {
	for _, l := range layouts {
		for _, n := range []int{0, 1, 2, 15, api.MaxEntries, api.MaxEntries + 1, 100, 255, 256, 257, 272, 1000} {
			f := whole(l.kind)
			f.Entries = entries(n)
			text := string([]byte{byte(n)})
			for _, x := range entries(n) {
				text += string([]byte{0, 0, byte(x.Slot >> 8), byte(x.Slot), 0, 0, byte(x.Ballot.N >> 8), byte(x.Ballot.N), 3, x.Command.Kind, 0, 0, 0, 0, 0, 0, 0, 0, 0, 9})
			}
			body := strings.Replace(l.body(), entriesText, text, 1)
			switch {
			case l.kind != Promise:
				encodes(t, f, l.body())
			case n <= api.MaxEntries:
				encodes(t, f, body)
				decodes(t, body, l.only(f))
			default:
				refuses(t, f)
			}
			if n > api.MaxEntries && n < 256 && l.kind == Promise {
				fails(t, body, api.ErrForm)
			}
		}
	}
}

// P6.2: the checksum comes first: a text without one is ErrShort, one with another one ErrSum.
func TestChecksum(t *testing.T) {
	for _, s := range []string{"", "a", "ab", "\x04\x11\x12"} {
		broken(t, s, api.ErrShort)
	}
	for _, s := range []string{"\x00\x00\x00\x01", "\x01\x02\x03\x04\x05", strings.Repeat("\xff", 5), "\x63\x01\x02" + strings.Repeat("\x00", 4)} {
		broken(t, s, api.ErrSum)
	}
	for _, l := range layouts {
		s := seal(l.body())
		for i := range s {
			for bit := range 8 {
				turned := []byte(s)
				turned[i] ^= 1 << bit
				broken(t, string(turned), api.ErrSum)
			}
		}
		broken(t, s[:len(s)-1], api.ErrSum)
		broken(t, s+"\x00", api.ErrSum)
	}
}

// P6.2: an incomplete head is ErrShort, also one of an unknown kind.
func TestHeads(t *testing.T) {
	for kind := range 256 {
		fails(t, string([]byte{byte(kind)}), api.ErrShort)
		fails(t, string([]byte{byte(kind), 1}), api.ErrShort)
	}
	fails(t, "", api.ErrShort)
}

// P6.2: wherever bytes are missing it is ErrShort, wherever some are left it is ErrLong.
func TestLengths(t *testing.T) {
	for _, l := range layouts {
		body := l.body()
		for n := range len(body) {
			fails(t, body[:n], api.ErrShort)
		}
		for _, more := range []string{"\x00", "\x01", "abc", body, strings.Repeat("\xff", 300)} {
			fails(t, body+more, api.ErrLong)
		}
	}
}

// P6.2: the first error counts: that of the first field, whatever is missing or left behind it.
func TestFirstError(t *testing.T) {
	const (
		stamp = "\x00\x00\x00\x07\x01\x01"
		inv   = "\x01\x11\x12" + epochText
		give  = "\x05\x11\x12" + epochText
		news  = "\x07\x01\x11\x00\x00\x00\x02"
		lives = "\x01\x01\x01\x01\x01\x01\x01\x01"
	)
	long := string(byte(api.MaxText+1)) + full + "x"
	for name, x := range map[string]struct {
		body string
		want api.Errno
	}{
		"Key alone":                           {inv + "\x06", api.ErrForm},
		"Key, and a wrong Has":                {inv + "\xff" + stamp + "\x02\x00\x00\x00", api.ErrForm},
		"Key missing":                         {inv, api.ErrShort},
		"Key, and bytes left":                 {"\x04\x11\x12" + epochText + "\x06\x00", api.ErrForm},
		"Epoch missing":                       {"\x04\x11\x12\x00\x00\x00", api.ErrShort},
		"Has alone":                           {inv + "\x00" + stamp + "\x02", api.ErrForm},
		"Has, Text missing":                   {inv + "\x00" + stamp + "\xff\x05ab", api.ErrForm},
		"no Has, Text alone":                  {inv + "\x00" + stamp + "\x00\x01a", api.ErrForm},
		"no Has, Text missing":                {inv + "\x00" + stamp + "\x00\x02a", api.ErrShort},
		"no Has, length missing":              {inv + "\x00" + stamp + "\x00", api.ErrShort},
		"no Has, Text of 33 missing":          {inv + "\x00" + stamp + "\x00" + long[:33], api.ErrShort},
		"no Has, Text of 33":                  {inv + "\x00" + stamp + "\x00" + long, api.ErrForm},
		"Text of 33 alone":                    {inv + "\x00" + stamp + "\x01" + long, api.ErrForm},
		"Text of 33 missing its last byte":    {inv + "\x00" + stamp + "\x01" + long[:33], api.ErrShort},
		"Text of 33, length alone":            {inv + "\x00" + stamp + "\x01" + long[:1], api.ErrShort},
		"Text of 255 missing":                 {inv + "\x00" + stamp + "\x01\xff" + full, api.ErrShort},
		"Text of 33, and bytes left":          {inv + "\x00" + stamp + "\x01" + long + "\x00\x00\x00", api.ErrForm},
		"Text of 33, and a wrong RMW":         {inv + "\x00" + stamp + "\x01" + long + "\x02\x00", api.ErrForm},
		"RMW alone":                           {inv + "\x00" + stamp + "\x01\x01a\x02", api.ErrForm},
		"RMW missing":                         {inv + "\x00" + stamp + "\x01\x01a", api.ErrShort},
		"RMW, and bytes left":                 {inv + "\x00" + stamp + "\x01\x01a\x02\x00\x00", api.ErrForm},
		"Dir missing":                         {inv + "\x00" + stamp + "\x01\x01a\x01", api.ErrShort},
		"RMW of a Give, Flag missing":         {give + "\x00" + stamp + "\x01\x01a\x80", api.ErrForm},
		"Flag of a Give missing":              {give + "\x00" + stamp + "\x01\x01a\x00", api.ErrShort},
		"Flag of a Give":                      {give + "\x00" + stamp + "\x01\x01a\x00\x02", api.ErrForm},
		"Flag of a Give, and bytes left":      {give + "\x00" + stamp + "\x01\x01a\x00\x02\x00", api.ErrForm},
		"Flag of an Ack":                      {"\x02\x11\x12" + epochText + "\x00" + stamp + "\x02", api.ErrForm},
		"Flag of a Hello":                     {"\x06\x11\x01" + epochText + lifeText + reqText + "\xff", api.ErrForm},
		"Flag of a Have":                      {"\x0f\x02\x01" + slotText + "\x02", api.ErrForm},
		"nine members, all missing":           {news + "\x09", api.ErrForm},
		"255 members, all missing":            {news + "\xff", api.ErrForm},
		"nine members, and bytes left":        {news + "\x09" + strings.Repeat("\x01", 100), api.ErrForm},
		"eight members, all missing":          {news + "\x08", api.ErrShort},
		"count of members missing":            {news, api.ErrShort},
		"Ready of a member, the next missing": {news + "\x02\x01\x01\x02", api.ErrForm},
		"Ready of a member missing":           {news + "\x02\x01\x01", api.ErrShort},
		"Ready of the last member":            {news + "\x02\x01\x01\x01\x02\x01\x03" + lives, api.ErrForm},
		"Lives missing":                       {news + "\x01\x01\x01\x01", api.ErrShort},
		"Lives incomplete":                    {news + "\x01\x01\x01\x01" + lives[:7], api.ErrShort},
		"Lives and one more":                  {news + "\x01\x01\x01\x01" + lives + "\x01", api.ErrLong},
		"Snap with nine members":              {"\x10\x02\x01" + slotText + news[3:] + "\x09", api.ErrForm},
		"17 entries, all missing":             {"\x0a\x02\x01" + ballotText + slotText + "\x11", api.ErrForm},
		"255 entries, all missing":            {"\x0a\x02\x01" + ballotText + slotText + "\xff", api.ErrForm},
		"17 entries, and bytes left":          {"\x0a\x02\x01" + ballotText + slotText + "\x11" + strings.Repeat("\x00", 400), api.ErrForm},
		"16 entries, all missing":             {"\x0a\x02\x01" + ballotText + slotText + "\x10", api.ErrShort},
		"count of entries missing":            {"\x0a\x02\x01" + ballotText + slotText, api.ErrShort},
		"no entries, and bytes left":          {"\x0a\x02\x01" + ballotText + slotText + "\x00\x00", api.ErrLong},
	} {
		if f, e := Decode(seal(x.body)); e != x.want || !reflect.DeepEqual(f, Frame{}) {
			t.Errorf("%s: %+v %v, want error %v", name, f, e, x.want)
		}
	}
}

// P6.2: all bytes of RMW, Flag, Has and Ready but 0 and 1 are ErrForm; all bytes are permitted where a number is.
func TestBytes(t *testing.T) {
	for _, l := range layouts {
		body := l.body()
		for i := 1; i < len(body); i++ {
			for n := range 256 {
				changed := []byte(body)
				changed[i] = byte(n)
				s := string(changed)
				want, e := oracle(s)
				if e == api.OK {
					decodes(t, s, want)
				} else {
					fails(t, s, e)
				}
			}
		}
	}
}

// A cursor decodes bytes as the chapter says, and gives up at the first error by a panic.
type cursor struct{ s string }

func (c *cursor) take(n int) string {
	if len(c.s) < n {
		panic(api.ErrShort)
	}
	s := c.s[:n]
	c.s = c.s[n:]
	return s
}

func (c *cursor) small() uint8 { return c.take(1)[0] }

func (c *cursor) large() uint32 { return binary.BigEndian.Uint32([]byte(c.take(4))) }

func (c *cursor) most(n uint8) uint8 {
	x := c.small()
	if x > n {
		panic(api.ErrForm)
	}
	return x
}

func (c *cursor) bit() bool { return c.most(1) == 1 }

func (c *cursor) text() register.Value {
	v := register.Value{Has: c.bit()}
	v.Text = c.take(int(c.small()))
	if len(v.Text) > 32 || !v.Has && v.Text != "" {
		panic(api.ErrForm)
	}
	return v
}

func (c *cursor) mark() mark.Mark {
	n := c.large()
	return mark.Mark{N: n, By: c.small()}
}

func (c *cursor) command() view.Command {
	x := view.Command{Kind: c.small()}
	x.Node = c.small()
	x.Life = c.small()
	x.Epoch = c.large()
	x.Req = c.large()
	return x
}

func (c *cursor) view() view.View {
	v := view.View{Epoch: c.large(), Members: []view.Member{}}
	for n := c.most(8); n > 0; n-- {
		m := view.Member{Node: c.small()}
		m.Life = c.small()
		m.Ready = c.bit()
		v.Members = append(v.Members, m)
	}
	for i := range v.Lives {
		v.Lives[i] = c.small()
	}
	return v
}

func (c *cursor) entries() []Entry {
	l := []Entry{}
	for n := c.most(16); n > 0; n-- {
		x := Entry{Slot: c.large()}
		x.Ballot.Mark = c.mark()
		x.Command = c.command()
		l = append(l, x)
	}
	return l
}

func isOneOf(kind uint8, kinds ...uint8) bool { return slices.Contains(kinds, kind) }

// fill reads the fields of f's kind. In the table, no kind has its fields in another order than this one.
func (c *cursor) fill(f *Frame) {
	if isOneOf(f.Kind, Inv, Ack, Val, Need, Give, Hello, Lease) {
		f.Epoch = c.large()
	}
	if isOneOf(f.Kind, Inv, Ack, Val, Need, Give) {
		f.Key = c.most(5)
	}
	if isOneOf(f.Kind, Inv, Ack, Val, Give) {
		f.Stamp.Mark = c.mark()
		f.Stamp.Life = c.small()
	}
	if isOneOf(f.Kind, Inv, Give) {
		f.Value = c.text()
		f.RMW = c.bit()
	}
	if isOneOf(f.Kind, Inv) {
		f.Dir = c.small()
	}
	if isOneOf(f.Kind, Hello, Lease) {
		f.Life = c.small()
		f.Req = c.large()
	}
	if isOneOf(f.Kind, Prepare, Promise, Refuse, Accept, Accepted) {
		f.Ballot.Mark = c.mark()
	}
	if isOneOf(f.Kind, Prepare, Promise, Accept, Accepted, Decide, Have, Snap) {
		f.Slot = c.large()
	}
	if isOneOf(f.Kind, Accept, Decide) {
		f.Command = c.command()
	}
	if isOneOf(f.Kind, News, Snap) {
		f.View = c.view()
	}
	if isOneOf(f.Kind, Promise) {
		f.Entries = c.entries()
	}
	if isOneOf(f.Kind, Ack, Give, Hello, Have) {
		f.Flag = c.bit()
	}
}

// oracle is what the chapter says of bytes whose checksum agrees.
func oracle(body string) (f Frame, e api.Errno) {
	defer func() {
		if r := recover(); r != nil {
			f, e = Frame{}, r.(api.Errno)
		}
	}()
	c := &cursor{body}
	f.Head = Head{Kind: c.small()}
	f.From = c.small()
	f.To = c.small()
	if f.Kind < 1 || f.Kind > 16 {
		panic(api.ErrForm)
	}
	c.fill(&f)
	if c.s != "" {
		panic(api.ErrLong)
	}
	return f, api.OK
}

// P6.2: bytes of all kinds are decoded, or refused, as the chapter says; what is decoded is encoded to the same bytes.
func TestDecodeAgreesWithTheChapter(t *testing.T) {
	random := rand.New(rand.NewSource(6))
	seen := map[api.Errno]int{}
	for i := range 200000 {
		body := []byte(layouts[i%len(layouts)].body())
		if i%3 == 0 {
			body = make([]byte, random.Intn(60))
			for k := range body {
				body[k] = byte(random.Intn(4))
			}
		}
		for range random.Intn(3) {
			if len(body) > 0 {
				body[random.Intn(len(body))] = byte(random.Intn(1 << (1 + random.Intn(8))))
			}
		}
		body = append(body, make([]byte, random.Intn(2)*random.Intn(40))...)
		body = body[:len(body)-random.Intn(2)*random.Intn(1+len(body))]
		want, e := oracle(string(body))
		seen[e]++
		if e != api.OK {
			fails(t, string(body), e)
			continue
		}
		decodes(t, string(body), want)
		encodes(t, want, string(body))
	}
	for _, e := range []api.Errno{api.OK, api.ErrShort, api.ErrLong, api.ErrForm} {
		if seen[e] < 1000 {
			t.Errorf("error %v was seen only %d times", e, seen[e])
		}
	}
}

// P6.3: what is encoded is decoded to the same frame, but for the fields that its kind does not have.
func TestRoundTrip(t *testing.T) {
	random := rand.New(rand.NewSource(7))
	for i := range 50000 {
		l := layouts[i%len(layouts)]
		f := Frame{
			Head:    Head{Kind: l.kind, From: uint8(random.Uint32()), To: uint8(random.Uint32())},
			Epoch:   random.Uint32(),
			Key:     uint8(random.Intn(api.Keys)),
			Stamp:   mark.Stamp{Mark: mark.Mark{N: random.Uint32(), By: uint8(random.Uint32())}, Life: uint8(random.Uint32())},
			RMW:     random.Intn(2) == 0,
			Flag:    random.Intn(2) == 0,
			Dir:     uint8(random.Uint32()),
			Life:    uint8(random.Uint32()),
			Req:     random.Uint32(),
			Ballot:  ballot(random.Uint32(), uint8(random.Uint32())),
			Slot:    random.Uint32(),
			Command: view.Command{Kind: uint8(random.Intn(7)), Node: uint8(random.Uint32()), Life: uint8(random.Uint32()), Epoch: random.Uint32(), Req: random.Uint32()},
			View:    view.View{Epoch: random.Uint32(), Members: members(random.Intn(api.MaxNodes + 1)), Lives: [api.MaxNodes]uint8{uint8(random.Uint32()), 7: uint8(random.Uint32())}},
			Entries: entries(random.Intn(api.MaxEntries + 1)),
		}
		if random.Intn(4) > 0 {
			f.Value = has(full[:random.Intn(api.MaxText+1)])
		}
		s, e := Encode(f)
		if e != api.OK {
			t.Fatalf("%+v: error %v", f, e)
		}
		g, e := Decode(s)
		if e != api.OK || !Same(g, l.only(f)) || !reflect.DeepEqual(normal(g), normal(l.only(f))) {
			t.Fatalf("%+v: %+v %v", f, g, e)
		}
	}
}

// changes make another frame of one, each in one field.
var changes = map[string]func(f *Frame){
	"Kind":            func(f *Frame) { f.Kind++ },
	"From":            func(f *Frame) { f.From++ },
	"To":              func(f *Frame) { f.To++ },
	"Epoch":           func(f *Frame) { f.Epoch++ },
	"Key":             func(f *Frame) { f.Key++ },
	"Stamp.N":         func(f *Frame) { f.Stamp.N++ },
	"Stamp.By":        func(f *Frame) { f.Stamp.By++ },
	"Stamp.Life":      func(f *Frame) { f.Stamp.Life++ },
	"Value.Has":       func(f *Frame) { f.Value.Has = !f.Value.Has },
	"Value.Text":      func(f *Frame) { f.Value.Text += "x" },
	"RMW":             func(f *Frame) { f.RMW = !f.RMW },
	"Flag":            func(f *Frame) { f.Flag = !f.Flag },
	"Dir":             func(f *Frame) { f.Dir++ },
	"Life":            func(f *Frame) { f.Life++ },
	"Req":             func(f *Frame) { f.Req++ },
	"Ballot.N":        func(f *Frame) { f.Ballot.N++ },
	"Ballot.By":       func(f *Frame) { f.Ballot.By++ },
	"Slot":            func(f *Frame) { f.Slot++ },
	"Command.Kind":    func(f *Frame) { f.Command.Kind++ },
	"Command.Req":     func(f *Frame) { f.Command.Req++ },
	"View.Epoch":      func(f *Frame) { f.View.Epoch++ },
	"View.Lives":      func(f *Frame) { f.View.Lives[7]++ },
	"a member":        func(f *Frame) { f.View.Members = append(f.View.Members, view.Member{}) },
	"members":         func(f *Frame) { f.View.Members = append(slices.Clone(f.View.Members), members(2)...)[2:] },
	"an entry":        func(f *Frame) { f.Entries = append(f.Entries, Entry{}) },
	"entries' order":  func(f *Frame) { slices.Reverse(f.Entries) },
	"an entry's Slot": func(f *Frame) { f.Entries[1].Slot++ },
}

// P6.3: Same compares every field, also those that the kind does not have.
func TestSame(t *testing.T) {
	for _, l := range layouts {
		if !Same(whole(l.kind), whole(l.kind)) {
			t.Errorf("kind %d: not the same", l.kind)
		}
		for name, change := range changes {
			f := whole(l.kind)
			change(&f)
			if Same(f, whole(l.kind)) || Same(whole(l.kind), f) {
				t.Errorf("kind %d: another %s, and the same", l.kind, name)
			}
		}
	}
	for field := range reflect.TypeFor[Frame]().Fields() {
		f := whole(Inv)
		reflect.ValueOf(&f).Elem().FieldByIndex(field.Index).SetZero()
		if Same(f, whole(Inv)) || Same(whole(Inv), f) {
			t.Errorf("without %s, and the same", field.Name)
		}
	}
	empty := Frame{View: view.View{Members: []view.Member{}}, Entries: []Entry{}}
	if !Same(empty, Frame{}) || !Same(Frame{}, empty) {
		t.Error("empty lists and none are not the same")
	}
	if !Same(Frame{Head: Head{Kind: 99}, Key: 77}, Frame{Head: Head{Kind: 99}, Key: 77}) {
		t.Error("frames that are not valid are not the same")
	}
}

// Neither the frame nor the spare capacity of its lists is modified, and what is decoded has lists of its own.
func TestListsAreTheirOwn(t *testing.T) {
	for _, l := range layouts {
		f := whole(l.kind)
		m := append(f.View.Members, view.Member{Node: 9}, view.Member{Node: 8})
		x := append(f.Entries, Entry{Slot: 9}, Entry{Slot: 8})
		f.View.Members, f.Entries = m[:2], x[:2]
		oldM, oldX := slices.Clone(m), slices.Clone(x)
		s, _ := Encode(f)
		if !Same(f, whole(l.kind)) || !slices.Equal(m, oldM) || !slices.Equal(x, oldX) {
			t.Errorf("kind %d: Encode modified its frame", l.kind)
		}
		g, _ := Decode(s)
		clear(g.View.Members)
		clear(g.Entries)
		if g, _ = Decode(s); !Same(g, l.only(f)) {
			t.Errorf("kind %d: decoded again: %+v", l.kind, g)
		}
	}
}
