package register

import (
	"math"
	"math/big"
	"math/rand"
	"regexp"
	"strconv"
	"strings"
	"testing"

	"talaria/api"
)

// The types have the fields of the chapter, and only these: otherwise this does not compile.
var (
	_ = struct {
		Has  bool
		Text string
	}(Value{})
	_ = struct {
		Kind, Key int
		Text      string
		Old       Value
		N         int64
	}(Op{})
	_ = struct {
		Err   api.Errno
		Value Value
	}(Answer{})
)

var (
	kinds = []int{Get, Put, Delete, CAS, Add}
	none  = Value{}
	full  = strings.Repeat("x", api.MaxText)
)

func has(s string) Value { return Value{Has: true, Text: s} }

// The kinds have the numbers of the chapter.
func TestKinds(t *testing.T) {
	for i, kind := range kinds {
		if kind != i+1 {
			t.Errorf("kind %d, want %d", kind, i+1)
		}
	}
}

// faults make an operation of any kind not valid, each in another way.
var faults = map[string]func(x *Op){
	"kind 0":                      func(x *Op) { x.Kind = 0 },
	"kind 6":                      func(x *Op) { x.Kind = 6 },
	"negative kind":               func(x *Op) { x.Kind = -x.Kind },
	"least kind":                  func(x *Op) { x.Kind = math.MinInt },
	"greatest kind":               func(x *Op) { x.Kind = math.MaxInt },
	"kind beyond 32 bits":         func(x *Op) { x.Kind += 1 << 32 },
	"key -1":                      func(x *Op) { x.Key = -1 },
	"key 6":                       func(x *Op) { x.Key = api.Keys },
	"least key":                   func(x *Op) { x.Key = math.MinInt },
	"greatest key":                func(x *Op) { x.Key = math.MaxInt },
	"key beyond 32 bits":          func(x *Op) { x.Key += 1 << 32 },
	"text of 33 bytes":            func(x *Op) { x.Text = full + "x" },
	"text of 33 bytes in 11":      func(x *Op) { x.Text = strings.Repeat("€", 11) },
	"long text":                   func(x *Op) { x.Text = strings.Repeat("x", 1000) },
	"old of 33 bytes":             func(x *Op) { x.Old = has(full + "x") },
	"old of 33 bytes in 11":       func(x *Op) { x.Old = has(strings.Repeat("€", 11)) },
	"long old":                    func(x *Op) { x.Old = has(strings.Repeat("x", 1000)) },
	"old none with a text":        func(x *Op) { x.Old = Value{Text: "a"} },
	"old none with a zero byte":   func(x *Op) { x.Old = Value{Text: "\x00"} },
	"old none with a text of 32":  func(x *Op) { x.Old = Value{Text: full} },
	"old none with a text of 33":  func(x *Op) { x.Old = Value{Text: full + "x"} },
	"key -1 and text of 33 bytes": func(x *Op) { x.Key, x.Text = -1, full+"x" },
}

// P4.1: operations of each kind are valid up to the limits, whatever fields their kind does not need.
func TestGood(t *testing.T) {
	for _, kind := range kinds {
		for _, x := range []Op{
			{},
			{Key: api.Keys - 1},
			{Key: 3, Text: "a"},
			{Text: full},
			{Text: strings.Repeat("é", api.MaxText/2)},
			{Text: strings.Repeat("\xff", api.MaxText)},
			{Text: "\x00"},
			{Old: has("")},
			{Old: has("a")},
			{Old: has(full)},
			{N: math.MaxInt64},
			{N: math.MinInt64},
			{Key: api.Keys - 1, Text: full, Old: has(full), N: -1},
		} {
			x.Kind = kind
			if !Good(x) {
				t.Errorf("%#v is not valid", x)
			}
		}
		for key := range api.Keys {
			if !Good(Op{Kind: kind, Key: key}) {
				t.Errorf("kind %d, key %d is not valid", kind, key)
			}
		}
	}
}

// P4.1: operations of each kind are not valid in each of the ways that the chapter lists.
func TestNotGood(t *testing.T) {
	if Good(Op{}) {
		t.Error("the zero operation is valid")
	}
	for name, spoil := range faults {
		for _, kind := range kinds {
			x := Op{Kind: kind, Key: 1, Text: "a", Old: has("b"), N: 1}
			spoil(&x)
			if Good(x) {
				t.Errorf("kind %d, %s: valid", kind, name)
			}
		}
	}
}

// P4.1: Put and Delete are plain, no other kind is.
func TestPlain(t *testing.T) {
	for _, kind := range []int{math.MinInt, -3, -2, -1, 0, Get, Put, Delete, CAS, Add, 6, 7, 1<<32 + Put, math.MaxInt} {
		want := kind == 2 || kind == 3
		for _, x := range []Op{{}, {Key: 5, Text: "a"}, {Old: has("a"), N: 7}, {Key: -1}} {
			x.Kind = kind
			if Plain(x) != want {
				t.Errorf("%#v plain: %v", x, !want)
			}
		}
	}
}

// result of Apply.
type result struct {
	v      Value
	a      Answer
	writes bool
}

func stays(v Value, e api.Errno, answer Value) result { return result{v, Answer{e, answer}, false} }

func writes(v, answer Value) result { return result{v, Answer{api.OK, answer}, true} }

func apply(t *testing.T, v Value, x Op, want result) {
	t.Helper()
	n, a, w := Apply(v, x)
	if got := (result{n, a, w}); got != want {
		t.Errorf("%#v of %#v: %#v, want %#v", x, v, got, want)
	}
}

// values of a key, among them the empty text, which is not none.
var values = []Value{none, has(""), has("a"), has("0"), has("-5"), has("abc"), has(full), has("\x00\xff")}

// P4.2: a Get answers the value and leaves it, whatever else the operation contains.
func TestGet(t *testing.T) {
	for _, v := range values {
		apply(t, v, Op{Kind: Get}, stays(v, api.OK, v))
		apply(t, v, Op{Kind: Get, Key: 5, Text: "t", Old: has("o"), N: 3}, stays(v, api.OK, v))
	}
}

// P4.2: a Put writes its text, also an empty one or the one that is there, and answers none.
func TestPut(t *testing.T) {
	for _, v := range values {
		for _, s := range []string{"", "a", "0", "new", full} {
			apply(t, v, Op{Kind: Put, Text: s}, writes(has(s), none))
			apply(t, v, Op{Kind: Put, Key: 5, Text: s, Old: has("o"), N: 3}, writes(has(s), none))
		}
	}
}

// P4.2: a Delete writes none, also where there is none, and answers none.
func TestDelete(t *testing.T) {
	for _, v := range values {
		apply(t, v, Op{Kind: Delete}, writes(none, none))
		apply(t, v, Op{Kind: Delete, Key: 5, Text: "t", Old: has("o"), N: 3}, writes(none, none))
	}
}

// P4.2: a CAS writes its text exactly if the value equals Old; otherwise it answers the value and leaves it.
func TestCAS(t *testing.T) {
	for i, v := range values {
		for j, old := range values {
			for _, s := range []string{"", "a", "new", full} {
				x := Op{Kind: CAS, Key: 2, Text: s, Old: old, N: 3}
				if i == j {
					apply(t, v, x, writes(has(s), none))
				} else {
					apply(t, v, x, stays(v, api.ErrDiffer, v))
				}
			}
		}
	}
}

// P4.2: an Add writes and answers the sum; none counts as 0.
func TestAdd(t *testing.T) {
	for _, x := range []struct {
		v    Value
		n    int64
		want string
	}{
		{has("-3"), 5, "2"},
		{has("3"), -5, "-2"},
		{has("3"), -3, "0"},
		{has("-3"), 3, "0"},
		{has("3"), 0, "3"},
		{has("0"), 0, "0"},
		{has("0"), -1, "-1"},
		{has("9"), 1, "10"},
		{has("-10"), 1, "-9"},
		{none, 0, "0"},
		{none, 7, "7"},
		{none, -7, "-7"},
		{none, math.MaxInt64, "9223372036854775807"},
		{none, math.MinInt64, "-9223372036854775808"},
		{has("9223372036854775806"), 1, "9223372036854775807"},
		{has("9223372036854775807"), 0, "9223372036854775807"},
		{has("9223372036854775807"), math.MinInt64, "-1"},
		{has("-9223372036854775807"), -1, "-9223372036854775808"},
		{has("-9223372036854775808"), 0, "-9223372036854775808"},
		{has("-9223372036854775808"), math.MaxInt64, "-1"},
		{has("-1"), math.MinInt64 + 1, "-9223372036854775808"},
		{has("1"), math.MaxInt64 - 1, "9223372036854775807"},
		{has("0"), math.MaxInt64, "9223372036854775807"},
		{has("0"), math.MinInt64, "-9223372036854775808"},
	} {
		apply(t, x.v, Op{Kind: Add, N: x.n}, writes(has(x.want), has(x.want)))
		apply(t, x.v, Op{Kind: Add, Key: 5, Text: "t", Old: has("o"), N: x.n}, writes(has(x.want), has(x.want)))
	}
}

// P4.2: a sum that is no int64 is ErrRange.
func TestAddOutOfRange(t *testing.T) {
	for _, x := range []struct {
		s string
		n int64
	}{
		{"9223372036854775807", 1},
		{"9223372036854775807", math.MaxInt64},
		{"9223372036854775806", 2},
		{"1", math.MaxInt64},
		{"-1", math.MinInt64},
		{"-2", math.MinInt64 + 1},
		{"-9223372036854775808", -1},
		{"-9223372036854775808", math.MinInt64},
		{"-9223372036854775807", -2},
		{"4611686018427387904", 1 << 62},
	} {
		apply(t, has(x.s), Op{Kind: Add, N: x.n}, stays(has(x.s), api.ErrRange, has(x.s)))
	}
}

// P4.2: a text that has no number is ErrForm, whatever is added to it.
func TestAddToNoNumber(t *testing.T) {
	for _, s := range []string{
		"", " ", "a", "x1", "1x", "abc", full,
		"-", "+", "--1", "-+1", "+1", "+0", "-0", "-00",
		"00", "01", "-01", "007", "00000000000000000000000000000001",
		" 1", "1 ", "1\n", "\t1", "1\x00", "\x001", "- 1",
		"1_000", "1,000", "1.0", "1.", "1e3", "0x1", "0b1", "0o7", "1a", "ff",
		"9223372036854775808", "-9223372036854775809", "18446744073709551616", "99999999999999999999999999999999",
		"-18446744073709551615", "٣", "１", "−1", "\xff",
	} {
		for _, n := range []int64{0, 1, -1, math.MaxInt64, math.MinInt64} {
			apply(t, has(s), Op{Kind: Add, N: n}, stays(has(s), api.ErrForm, has(s)))
		}
	}
}

// decimal are the texts of integers, without regard to their size.
var decimal = regexp.MustCompile(`^(0|-?[1-9][0-9]*)\z`)

// wanted computes the result of an Add by integers without limits.
func wanted(v Value, n int64) result {
	sum := new(big.Int)
	if v.Has {
		if !decimal.MatchString(v.Text) {
			return stays(v, api.ErrForm, v)
		}
		sum.SetString(v.Text, 10)
	}
	if !sum.IsInt64() {
		return stays(v, api.ErrForm, v)
	}
	if sum.Add(sum, big.NewInt(n)); !sum.IsInt64() {
		return stays(v, api.ErrRange, v)
	}
	return writes(has(sum.String()), has(sum.String()))
}

// P4.2: all short texts of signs, digits and others, and all numbers about the limits.
func TestAddAgreesWithIntegersWithoutLimits(t *testing.T) {
	texts := []string{""}
	for i := 0; i < len(texts); i++ {
		if len(texts[i]) < 4 {
			for _, c := range "-+019 a_" {
				texts = append(texts, texts[i]+string(c))
			}
		}
	}
	for _, s := range texts {
		for _, n := range []int64{0, -10} {
			apply(t, has(s), Op{Kind: Add, N: n}, wanted(has(s), n))
		}
	}
	var near []int64
	for d := range int64(20) {
		near = append(near, d, -d, math.MaxInt64-d, math.MinInt64+d, math.MaxInt64/2+d-9, math.MinInt64/2+d-9)
	}
	for _, n := range near {
		apply(t, none, Op{Kind: Add, N: n}, wanted(none, n))
		for _, m := range near {
			v := has(strconv.FormatInt(m, 10))
			apply(t, v, Op{Kind: Add, N: n}, wanted(v, n))
		}
	}
	random := rand.New(rand.NewSource(1))
	for range 5000 {
		n, m := int64(random.Uint64()), int64(random.Uint64())
		v := has(strconv.FormatInt(m, 10))
		apply(t, v, Op{Kind: Add, N: n}, wanted(v, n))
	}
}

// P4.2: an operation that is not valid, in whatever way, leaves the value and answers ErrArg and none.
func TestApplyNotValid(t *testing.T) {
	for _, v := range values {
		apply(t, v, Op{}, stays(v, api.ErrArg, none))
		for _, spoil := range faults {
			for _, kind := range kinds {
				for _, old := range []Value{v, has("b")} { // also a CAS that would write
					x := Op{Kind: kind, Key: 1, Text: "a", Old: old, N: 1}
					spoil(&x)
					apply(t, v, x, stays(v, api.ErrArg, none))
				}
			}
		}
	}
	// ErrArg precedes the errors of an Add.
	apply(t, has("a"), Op{Kind: Add, Key: api.Keys, N: 1}, stays(has("a"), api.ErrArg, none))
	apply(t, has("9223372036854775807"), Op{Kind: Add, Key: -1, N: 1}, stays(has("9223372036854775807"), api.ErrArg, none))
}

// P4.2: each operation is applied to the value that the one before it left.
func TestApplyInSequence(t *testing.T) {
	v := none
	for _, x := range []struct {
		op   Op
		want result
	}{
		{Op{Kind: Put, Text: "x"}, writes(has("x"), none)},
		{Op{Kind: Get}, stays(has("x"), api.OK, has("x"))},
		{Op{Kind: CAS, Old: has("y"), Text: "z"}, stays(has("x"), api.ErrDiffer, has("x"))},
		{Op{Kind: CAS, Old: has("x"), Text: "7"}, writes(has("7"), none)},
		{Op{Kind: Add, N: -9}, writes(has("-2"), has("-2"))},
		{Op{Kind: Delete}, writes(none, none)},
		{Op{Kind: CAS, Text: ""}, writes(has(""), none)},
		{Op{Kind: Add, N: 1}, stays(has(""), api.ErrForm, has(""))},
		{Op{Kind: 9}, stays(has(""), api.ErrArg, none)},
		{Op{Kind: CAS, Old: none, Text: "q"}, stays(has(""), api.ErrDiffer, has(""))},
		{Op{Kind: CAS, Old: has(""), Text: "0"}, writes(has("0"), none)},
		{Op{Kind: Get}, stays(has("0"), api.OK, has("0"))},
	} {
		apply(t, v, x.op, x.want)
		v, _, _ = Apply(v, x.op)
	}
}
