package octet_test

import (
	"bytes"
	"math"
	"slices"
	"strings"
	"testing"

	"consistory/api"
	"consistory/octet"
)

// ends are the least and the greatest number of each width, and some between.
func ends() []uint64 {
	l := []uint64{0, 1, 2, 127, 128, 254, 300, 0x0102030405060708, 1 << 63, 1<<63 - 1, math.MaxUint64 - 1, math.MaxUint64}
	for i := 8; i < 64; i += 8 {
		l = append(l, 1<<i-1, 1<<i, 1<<i+1)
	}
	return l
}

// someInts are ints at the ends of all ranges.
func someInts() []int {
	l := []int{math.MinInt, math.MinInt + 1, math.MaxInt - 1, math.MaxInt}
	for i := 0; i < 63; i++ {
		l = append(l, 1<<i-1, 1<<i, 1<<i+1, -(1 << i), -(1<<i)-1, 1-1<<i)
	}
	return l
}

func someTexts() []string {
	return []string{"", "a", "\x00", "\xff\xfe", "héllo", "/a/b", strings.Repeat("x", 255), strings.Repeat("y", 256), strings.Repeat("z", 70000)}
}

func someLists() [][]string {
	return [][]string{nil, {""}, {"", "", ""}, {"a", "bc", "", "\x00\x01"}, someTexts(), slices.Repeat([]string{"q"}, 300)}
}

// tails are bytes that may follow an encoding; some of them look like encodings.
func tails() []string {
	return []string{"", "\x00", "\x09", "\x01\x05", "\xff\xff\xff", "tail", strings.Repeat("\x00", 20)}
}

// plain is the encoding of a number, written as the chapter words it.
func plain(n uint64) string {
	s := ""
	for ; n > 0; n /= 256 {
		s = string([]byte{byte(n % 256)}) + s
	}
	return string([]byte{byte(len(s))}) + s
}

func plainText(s string) string {
	return plain(uint64(len(s))) + s
}

func plainList(l []string) string {
	out := plain(uint64(len(l)))
	for _, s := range l {
		out += plainText(s)
	}
	return out
}

// rows calls see for all byte strings of at most long bytes out of an alphabet.
func rows(alphabet string, long int, see func(b []byte)) {
	var walk func(b []byte)
	walk = func(b []byte) {
		see(b)
		if len(b) == long {
			return
		}
		for i := range len(alphabet) {
			walk(append(slices.Clone(b), alphabet[i]))
		}
	}
	walk(nil)
}

func TestPut(t *testing.T) {
	for n, want := range map[uint64]string{
		0:                  "\x00",
		1:                  "\x01\x01",
		255:                "\x01\xff",
		256:                "\x02\x01\x00",
		300:                "\x02\x01\x2c",
		65535:              "\x02\xff\xff",
		65536:              "\x03\x01\x00\x00",
		0x0102030405060708: "\x08\x01\x02\x03\x04\x05\x06\x07\x08",
		1<<56 - 1:          "\x07\xff\xff\xff\xff\xff\xff\xff",
		1 << 56:            "\x08\x01\x00\x00\x00\x00\x00\x00\x00",
		math.MaxUint64:     "\x08\xff\xff\xff\xff\xff\xff\xff\xff",
	} {
		if got := octet.Put(nil, n); string(got) != want {
			t.Errorf("Put(nil, %d) = %q, not %q", n, got, want)
		}
	}
	for _, n := range ends() {
		for _, b := range []string{"", "x", "some bytes"} {
			if got := octet.Put([]byte(b), n); string(got) != b+plain(n) {
				t.Errorf("Put(%q, %d) = %q", b, n, got)
			}
		}
	}
}

func TestSize(t *testing.T) {
	for _, n := range ends() {
		if got := octet.Size(n); got != len(plain(n)) {
			t.Errorf("Size(%d) = %d, not %d", n, got, len(plain(n)))
		}
	}
}

func TestTakeErrors(t *testing.T) {
	for s, want := range map[string]api.Errno{
		"":                                     api.ErrShort,
		"\x01":                                 api.ErrShort,
		"\x08":                                 api.ErrShort,
		"\x02\x01":                             api.ErrShort,
		"\x03\x01\x00":                         api.ErrShort,
		"\x08\x01\x02\x03\x04\x05\x06\x07":     api.ErrShort,
		"\x09":                                 api.ErrForm,
		"\x09\x01\x02\x03\x04\x05\x06\x07\x08": api.ErrForm,
		"\xff":                                 api.ErrForm,
		"\x01\x00":                             api.ErrForm,
		"\x02\x00\x01":                         api.ErrForm,
		"\x08\x00\x01\x02\x03\x04\x05\x06\x07": api.ErrForm,
		// Bytes are missing too, but the form is named ahead of that.
		"\x02\x00": api.ErrForm,
		"\x08\x00": api.ErrForm,
		"\x09\x00": api.ErrForm,
		"\x80\x01": api.ErrForm,
	} {
		b := []byte(s)
		if n, rest, e := octet.Take(b); n != 0 || len(rest) != 0 || e != want {
			t.Errorf("Take(%q) = %d, %q, %d, not the error %d", s, n, rest, e, want)
		}
		if n, rest, e := octet.TakeInt(b); n != 0 || len(rest) != 0 || e != want {
			t.Errorf("TakeInt(%q) = %d, %q, %d, not the error %d", s, n, rest, e, want)
		}
		if got, rest, e := octet.TakeText(b, 5); got != "" || len(rest) != 0 || e != want {
			t.Errorf("TakeText(%q, 5) = %q, %q, %d, not the error %d", s, got, rest, e, want)
		}
		if l, rest, e := octet.TakeList(b, 5, 5); len(l) != 0 || len(rest) != 0 || e != want {
			t.Errorf("TakeList(%q, 5, 5) = %q, %q, %d, not the error %d", s, l, rest, e, want)
		}
	}
	if _, _, e := octet.Take(nil); e != api.ErrShort {
		t.Errorf("Take(nil): %d", e)
	}
}

func TestTakeLeavesTheRest(t *testing.T) {
	for s, want := range map[string]struct {
		n    uint64
		rest string
	}{
		"\x00":                    {0, ""},
		"\x00\x00":                {0, "\x00"},
		"\x00\x09":                {0, "\x09"},
		"\x01\x07":                {7, ""},
		"\x01\x07\x00\x08":        {7, "\x00\x08"},
		"\x02\x01\x2cx":           {300, "x"},
		"\x03\x01\x00\x00\x02abc": {65536, "\x02abc"},
	} {
		n, rest, e := octet.Take([]byte(s))
		if n != want.n || string(rest) != want.rest || e != api.OK {
			t.Errorf("Take(%q) = %d, %q, %d", s, n, rest, e)
		}
	}
}

func TestText(t *testing.T) {
	for _, s := range someTexts() {
		for _, b := range []string{"", "x", "some bytes"} {
			if got := octet.Text([]byte(b), s); string(got) != b+plainText(s) {
				t.Errorf("Text(%q, %.20q) = %.40q", b, s, got)
			}
		}
	}
	if got := octet.Text(nil, "abc"); string(got) != "\x01\x03abc" {
		t.Errorf("Text(nil, abc) = %q", got)
	}
	if got := octet.Text(nil, ""); string(got) != "\x00" {
		t.Errorf("Text of nothing = %q", got)
	}
}

func TestTakeText(t *testing.T) {
	for _, c := range []struct {
		b    string
		most int
		s    string
		rest string
		e    api.Errno
	}{
		{"\x00", 0, "", "", api.OK},
		{"\x00", -1, "", "", api.OK},
		{"\x00rest", math.MinInt, "", "rest", api.OK},
		{"\x01\x02abc", 2, "ab", "c", api.OK},
		{"\x01\x02abc", 3, "ab", "c", api.OK},
		{"\x01\x02abc", math.MaxInt, "ab", "c", api.OK},
		{"\x01\x02abc", 1, "", "", api.ErrLarge},
		{"\x01\x02abc", 0, "", "", api.ErrLarge},
		{"\x01\x01a", -1, "", "", api.ErrLarge},
		{"\x01\x01a", math.MinInt, "", "", api.ErrLarge},
		{"\x01\x03ab", 3, "", "", api.ErrShort},
		{"\x01\x03", 3, "", "", api.ErrShort},
		{"\x01\x03", math.MaxInt, "", "", api.ErrShort},
		// Too long is named ahead of missing bytes.
		{"\x01\x03ab", 2, "", "", api.ErrLarge},
		{"\x01\x03", -5, "", "", api.ErrLarge},
		// The error of the length is named ahead of both.
		{"\x02\x01", 0, "", "", api.ErrShort},
		{"\x02\x00\x05", 0, "", "", api.ErrForm},
		{"\x09", -1, "", "", api.ErrForm},
		// Lengths above every int.
		{"\x08\xff\xff\xff\xff\xff\xff\xff\xffab", math.MaxInt, "", "", api.ErrLarge},
		{"\x08\x80\x00\x00\x00\x00\x00\x00\x00ab", math.MaxInt, "", "", api.ErrLarge},
		{"\x08\x80\x00\x00\x00\x00\x00\x00\x02ab", 0, "", "", api.ErrLarge},
		{"\x08\xff\xff\xff\xff\xff\xff\xff\xffab", -1, "", "", api.ErrLarge},
		{"\x08\x7f\xff\xff\xff\xff\xff\xff\xffab", math.MaxInt, "", "", api.ErrShort},
	} {
		s, rest, e := octet.TakeText([]byte(c.b), c.most)
		if s != c.s || string(rest) != c.rest || e != c.e {
			t.Errorf("TakeText(%q, %d) = %q, %q, %d", c.b, c.most, s, rest, e)
		}
	}
}

func TestList(t *testing.T) {
	for _, l := range someLists() {
		for _, b := range []string{"", "x", "some bytes"} {
			if got := octet.List([]byte(b), l); string(got) != b+plainList(l) {
				t.Errorf("List(%q, %d texts) = %.40q", b, len(l), got)
			}
		}
	}
	if got := octet.List(nil, []string{"ab", "", "c"}); string(got) != "\x01\x03\x01\x02ab\x00\x01\x01c" {
		t.Errorf("List = %q", got)
	}
	if got := octet.List([]byte{}, []string{}); string(got) != "\x00" {
		t.Errorf("List of nothing = %q", got)
	}
}

func TestTakeList(t *testing.T) {
	three := "\x01\x03\x01\x02ab\x00\x01\x01c"
	for _, c := range []struct {
		b          string
		many, most int
		l          []string
		rest       string
		e          api.Errno
	}{
		{"\x00", 0, 0, nil, "", api.OK},
		{"\x00rest", -1, -1, nil, "rest", api.OK},
		{"\x00", math.MinInt, math.MinInt, nil, "", api.OK},
		{three, 3, 2, []string{"ab", "", "c"}, "", api.OK},
		{three + "\x09", math.MaxInt, math.MaxInt, []string{"ab", "", "c"}, "\x09", api.OK},
		{"\x01\x02\x00\x00\x00", 2, 0, []string{"", ""}, "\x00", api.OK},
		{"\x01\x02\x00\x00\x00", 2, -7, []string{"", ""}, "\x00", api.OK},
		{three, 2, 2, nil, "", api.ErrLarge},
		{three, 0, 2, nil, "", api.ErrLarge},
		{three, -1, 2, nil, "", api.ErrLarge},
		{three, 3, 1, nil, "", api.ErrLarge},
		{three, 3, -1, nil, "", api.ErrLarge},
		{"\x01\x03\x01\x02ab\x00", 3, 2, nil, "", api.ErrShort},
		{"\x01\x03\x01\x02ab\x00\x01", 3, 2, nil, "", api.ErrShort},
		{"\x01\x03\x01\x02ab\x00\x01\x01", 3, 2, nil, "", api.ErrShort},
		{"\x01\x03\x01\x02ab\x00\x09", 3, 2, nil, "", api.ErrForm},
		{"\x01\x03\x01\x02ab\x00\x01\x00", 3, 2, nil, "", api.ErrForm},
		// Too many is named ahead of what is wrong with a text.
		{"\x01\x03\x09", 2, 2, nil, "", api.ErrLarge},
		{"\x01\x03", -1, 2, nil, "", api.ErrLarge},
		// The error of the number is named ahead of that.
		{"\x02\x01", 0, 0, nil, "", api.ErrShort},
		{"\x02\x00\x05", 0, 0, nil, "", api.ErrForm},
		{"\x09", -1, -1, nil, "", api.ErrForm},
		// The first text that is wrong tells the error.
		{"\x01\x02\x01\x03abc\x09", 2, 2, nil, "", api.ErrLarge},
		{"\x01\x02\x09\x01\x03abc", 2, 2, nil, "", api.ErrForm},
		{"\x01\x02\x01\x03ab", 2, 3, nil, "", api.ErrShort},
		{"\x01\x02\x01\x03ab", 2, 2, nil, "", api.ErrLarge},
		// Numbers that no memory has room for.
		{"\x08\xff\xff\xff\xff\xff\xff\xff\xff\x00", math.MaxInt, 5, nil, "", api.ErrLarge},
		{"\x08\x80\x00\x00\x00\x00\x00\x00\x01\x00", math.MaxInt, 5, nil, "", api.ErrLarge},
		{"\x08\x80\x00\x00\x00\x00\x00\x00\x01\x00", -1, 5, nil, "", api.ErrLarge},
		{"\x08\x7f\xff\xff\xff\xff\xff\xff\xff\x00\x00", math.MaxInt, 5, nil, "", api.ErrShort},
		{"\x08\x7f\xff\xff\xff\xff\xff\xff\xff\x00\x0a", math.MaxInt, 5, nil, "", api.ErrForm},
	} {
		l, rest, e := octet.TakeList([]byte(c.b), c.many, c.most)
		if !slices.Equal(l, c.l) || string(rest) != c.rest || e != c.e {
			t.Errorf("TakeList(%q, %d, %d) = %q, %q, %d", c.b, c.many, c.most, l, rest, e)
		}
	}
}

func TestInt(t *testing.T) {
	for n, want := range map[int]uint64{
		0:               0,
		-1:              1,
		1:               2,
		-2:              3,
		2:               4,
		-3:              5,
		127:             254,
		-128:            255,
		128:             256,
		150:             300,
		math.MaxInt:     math.MaxUint64 - 1,
		math.MinInt:     math.MaxUint64,
		math.MinInt + 1: math.MaxUint64 - 2,
		math.MaxInt - 1: math.MaxUint64 - 3,
	} {
		if got := octet.Int([]byte("x"), n); string(got) != "x"+plain(want) {
			t.Errorf("Int(x, %d) = %q", n, got)
		}
		m, rest, e := octet.TakeInt([]byte(plain(want) + "r"))
		if m != n || string(rest) != "r" || e != api.OK {
			t.Errorf("TakeInt of %d = %d, %q, %d", want, m, rest, e)
		}
	}
}

// within is s with bytes ahead of it, and spare capacity behind it, in one piece of memory.
func within(s string) (whole, part []byte) {
	whole = []byte("<<<" + s + ">>>>>>>>>>>>>>>>>>>>>>>>>>>>>>>>")
	return whole, whole[3 : 3+len(s)]
}

func TestNothingHandedInIsChanged(t *testing.T) {
	l := []string{"ab", "", "c", "beyond"}
	for name, call := range map[string]func(b []byte) []byte{
		"Put":      func(b []byte) []byte { return octet.Put(b, math.MaxUint64) },
		"Text":     func(b []byte) []byte { return octet.Text(b, "text") },
		"List":     func(b []byte) []byte { return octet.List(b, l[:2]) },
		"Int":      func(b []byte) []byte { return octet.Int(b, math.MinInt) },
		"Take":     func(b []byte) []byte { _, rest, _ := octet.Take(b); return rest },
		"TakeText": func(b []byte) []byte { _, rest, _ := octet.TakeText(b, 9); return rest },
		"TakeList": func(b []byte) []byte { _, rest, _ := octet.TakeList(b, 9, 9); return rest },
		"TakeInt":  func(b []byte) []byte { _, rest, _ := octet.TakeInt(b); return rest },
	} {
		for _, s := range []string{"", "\x00", "\x01", "\x09", "\x01\x02\x01\x01a\x00rest", "\x01\x01arest"} {
			whole, part := within(s)
			before := slices.Clone(whole)
			got := call(part)
			kept := slices.Clone(got)
			if !bytes.Equal(whole, before) {
				t.Errorf("%s(%q) changed what it was given: %q", name, s, whole)
			}
			// The answer is memory of its own, and so is what lies behind it.
			for i := range got[:cap(got)] {
				got[:cap(got)][i] ^= 0xff
			}
			_ = append(got, "more"...)
			if !bytes.Equal(whole, before) {
				t.Errorf("%s(%q) answers memory that it was given", name, s)
			}
			got = call(part)
			for i := range whole {
				whole[i] ^= 0xff
			}
			if !bytes.Equal(got, kept) {
				t.Errorf("%s(%q): the answer changes with what was given", name, s)
			}
		}
	}
	if !slices.Equal(l, []string{"ab", "", "c", "beyond"}) {
		t.Errorf("List changed its list: %q", l)
	}
}

func TestDecodedTextsAreKept(t *testing.T) {
	b := octet.List(nil, []string{"ab", "cd"})
	l, _, _ := octet.TakeList(b, 2, 2)
	s, _, _ := octet.TakeText(b[2:], 2)
	clear(b)
	if !slices.Equal(l, []string{"ab", "cd"}) || s != "ab" {
		t.Errorf("changed with the bytes: %q, %q", l, s)
	}
}

func TestNumbersComeBack(t *testing.T) {
	for _, tail := range tails() {
		for _, n := range ends() {
			m, rest, e := octet.Take(append(octet.Put(nil, n), tail...))
			if m != n || string(rest) != tail || e != api.OK {
				t.Errorf("%d and %q: %d, %q, %d", n, tail, m, rest, e)
			}
		}
		for _, n := range someInts() {
			m, rest, e := octet.TakeInt(append(octet.Int(nil, n), tail...))
			if m != n || string(rest) != tail || e != api.OK {
				t.Errorf("%d and %q: %d, %q, %d", n, tail, m, rest, e)
			}
		}
	}
}

func TestTextsComeBack(t *testing.T) {
	for _, tail := range tails() {
		for _, s := range someTexts() {
			for _, most := range []int{len(s), len(s) + 1, math.MaxInt} {
				got, rest, e := octet.TakeText(append(octet.Text(nil, s), tail...), most)
				if got != s || string(rest) != tail || e != api.OK {
					t.Errorf("%.20q and %q: %.20q, %.20q, %d", s, tail, got, rest, e)
				}
			}
		}
	}
}

func TestListsComeBack(t *testing.T) {
	for _, tail := range tails() {
		for _, l := range someLists() {
			for _, many := range []int{len(l), len(l) + 1, math.MaxInt} {
				got, rest, e := octet.TakeList(append(octet.List(nil, l), tail...), many, 70000)
				if !slices.Equal(got, l) || string(rest) != tail || e != api.OK {
					t.Errorf("%d texts and %q: %d texts, %.20q, %d", len(l), tail, len(got), rest, e)
				}
			}
		}
	}
}

// checkUnique: what is decoded of b, encoded again and followed by what is left, is b.
func checkUnique(t *testing.T, b []byte) {
	t.Helper()
	if n, rest, e := octet.Take(b); e == api.OK {
		if again := append(octet.Put(nil, n), rest...); !bytes.Equal(again, b) {
			t.Errorf("Take(%q) is that of %q", b, again)
		}
		if octet.Size(n)+len(rest) != len(b) {
			t.Errorf("Size(%d) is not how many bytes Take(%q) took", n, b)
		}
	}
	if n, rest, e := octet.TakeInt(b); e == api.OK {
		if again := append(octet.Int(nil, n), rest...); !bytes.Equal(again, b) {
			t.Errorf("TakeInt(%q) is that of %q", b, again)
		}
	}
	if s, rest, e := octet.TakeText(b, math.MaxInt); e == api.OK {
		if again := append(octet.Text(nil, s), rest...); !bytes.Equal(again, b) {
			t.Errorf("TakeText(%q) is that of %q", b, again)
		}
	}
	if l, rest, e := octet.TakeList(b, math.MaxInt, math.MaxInt); e == api.OK {
		if again := append(octet.List(nil, l), rest...); !bytes.Equal(again, b) {
			t.Errorf("TakeList(%q) is that of %q", b, again)
		}
	}
}

func TestEncodingsAreUnique(t *testing.T) {
	every := make([]byte, 256)
	for i := range every {
		every[i] = byte(i)
	}
	rows(string(every), 2, func(b []byte) { checkUnique(t, b) })
	rows("\x00\x01\x02\x03\xff", 7, func(b []byte) { checkUnique(t, b) })
	for _, n := range ends() {
		b := octet.Put(nil, n)
		for i := range b {
			changed := slices.Clone(b)
			for c := range 256 {
				changed[i] = byte(c)
				checkUnique(t, changed)
			}
		}
	}
}

func TestNoTwoNumbersAreEncodedAlike(t *testing.T) {
	numbers, ints := map[string]uint64{}, map[string]int{}
	for _, n := range ends() {
		b := string(octet.Put(nil, n))
		if m, ok := numbers[b]; ok && m != n {
			t.Errorf("%d and %d: %q", m, n, b)
		}
		numbers[b] = n
	}
	for _, n := range someInts() {
		b := string(octet.Int(nil, n))
		if m, ok := ints[b]; ok && m != n {
			t.Errorf("%d and %d: %q", m, n, b)
		}
		ints[b] = n
	}
}

func FuzzUnique(f *testing.F) {
	f.Add([]byte("\x01\x03\x01\x02ab\x00\x01\x01c"))
	f.Add([]byte("\x08\xff\xff\xff\xff\xff\xff\xff\xff\x00"))
	f.Fuzz(checkUnique)
}
