package order_test

import (
	"bytes"
	"fmt"
	"math"
	"math/rand/v2"
	"reflect"
	"slices"
	"strings"
	"testing"

	"consistory/api"
	"consistory/octet"
	"consistory/order"
)

const (
	maxSeq   = 1_000_000_000
	maxNames = 200
)

var (
	// used is the chapter's list of the kinds, and of the fields that each of them uses.
	used = [][]string{
		0:  {},
		1:  {"Path", "Value", "Session"},
		2:  {"Path"},
		3:  {"Path", "Value", "Version"},
		4:  {"Path", "Version"},
		5:  {"Path"},
		6:  {"Session", "Span"},
		7:  {"Session"},
		8:  {"Session"},
		9:  {"Span"},
		10: {"Path"},
		11: {"Path"},
	}
	fields = []string{"Path", "Value", "Version", "Session", "Span"}

	numbers = []int{1, -1, 2, -2, 127, 128, -128, -129, 1000, 1001, maxSeq, maxSeq + 1, 1 << 32, -1 << 32, math.MaxInt - 1, math.MaxInt, math.MinInt + 1, math.MinInt}
	texts   = []string{"/a", "/", "a", "/a/", "//", "\x00", "\xff\xfe", "é", "/A b", long(30), long(99), long(100)}
	errnos  = []api.Errno{-1, 17, -2, 18, 100, 256, 257, 1 << 32, 1<<32 + 1, math.MaxInt, math.MinInt, math.MinInt + 1}
)

func long(n int) string { return strings.Repeat("a", n) }

// filled is o with the k-th of some values, of which none is empty or 0, in a field.
func filled(o order.Order, field string, k int) order.Order {
	text, number := texts[k%len(texts)], numbers[k%len(numbers)]
	switch field {
	case "Path":
		o.Path = text
	case "Value":
		o.Value = text
	case "Version":
		o.Version = number
	case "Session":
		o.Session = number
	case "Span":
		o.Span = number
	}
	return o
}

// wholeOrder is a request of a kind with all the fields that it uses.
func wholeOrder(kind, k int) order.Order {
	o := order.Order{Client: k % 1001, Seq: 1 + k, Kind: kind}
	for i, f := range used[kind] {
		o = filled(o, f, k+i)
	}
	return o
}

// isValid is the chapter's definition of a valid request, written out.
func isValid(o order.Order) bool {
	if o.Client < 0 || o.Client > 1000 || o.Seq < 1 || o.Seq > maxSeq || o.Kind < 0 || o.Kind > 11 {
		return false
	}
	there := map[string]bool{"Path": o.Path != "", "Value": o.Value != "", "Version": o.Version != 0, "Session": o.Session != 0, "Span": o.Span != 0}
	for _, f := range fields {
		if there[f] && !slices.Contains(used[o.Kind], f) {
			return false
		}
	}
	return len(o.Path) <= 100 && len(o.Value) <= 1000
}

// validOrders are requests of all kinds, with all the fields that they use, with some, and with none.
func validOrders() []order.Order {
	l := []order.Order{
		{Client: 1000, Seq: maxSeq},
		{Client: 1000, Seq: maxSeq, Kind: 1, Path: long(100), Value: long(1000), Session: math.MaxInt},
		{Client: 0, Seq: 1, Kind: 3, Path: long(100), Value: strings.Repeat("\xff", 1000), Version: math.MinInt},
		{Seq: 128, Kind: 6, Session: math.MinInt, Span: math.MinInt},
	}
	for kind := range used {
		l = append(l, order.Order{Client: kind, Seq: 7, Kind: kind})
		for k := range 20 {
			l = append(l, wholeOrder(kind, k))
		}
		for i, f := range used[kind] {
			l = append(l, filled(order.Order{Client: 3, Seq: 300, Kind: kind}, f, i))
		}
	}
	return l
}

// invalidOrders are requests that are not valid, in each way; their texts are not too long.
func invalidOrders() []order.Order {
	var l []order.Order
	for kind := range used {
		for _, client := range []int{-1, 1001, math.MinInt, math.MaxInt} {
			o := wholeOrder(kind, 1)
			o.Client = client
			l = append(l, o)
		}
		for _, seq := range []int{0, -1, maxSeq + 1, math.MinInt, math.MaxInt} {
			o := wholeOrder(kind, 2)
			o.Seq = seq
			l = append(l, o)
		}
		for k, f := range fields {
			if !slices.Contains(used[kind], f) {
				l = append(l, filled(wholeOrder(kind, 3), f, k), filled(order.Order{Seq: 1, Kind: kind}, f, k))
			}
		}
	}
	for _, kind := range []int{-1, 12, -2, 13, 14, 20, 256, 257, 266, 1 << 32, 1<<32 + 1, math.MinInt, math.MaxInt} {
		l = append(l, order.Order{Seq: 1, Kind: kind}, order.Order{Client: 1, Seq: 1, Kind: kind, Path: "/a"})
	}
	return append(l, order.Order{}, order.Order{Client: -1, Kind: 12, Path: "/a", Span: -1})
}

// rightReplies are replies that can be decoded: whatever their numbers, with errors from 0 to 16.
func rightReplies() []order.Reply {
	l := []order.Reply{
		{},
		{Names: []string{}},
		{Client: 1, Seq: 2, E: 6, Value: "v", Version: 3, Names: []string{"a", "b"}},
		{Client: 1000, Seq: maxSeq, Value: long(1000), Version: 1},
		{Names: []string{""}},
		{Names: []string{"", "", ""}},
		{Names: []string{"b", "a", "b", ""}},
		{Seq: 1, Names: slices.Repeat([]string{"name"}, maxNames)},
		{Seq: 1, Names: []string{long(1000), "", strings.Repeat("\x00", 1000), long(30)}},
	}
	for e := range 17 {
		l = append(l, order.Reply{Client: 7, Seq: 1, E: api.Errno(e)}, order.Reply{Client: 7, Seq: 1, E: api.Errno(e), Value: "/a", Version: -1, Names: []string{"x"}})
	}
	for i, n := range numbers {
		l = append(l, order.Reply{Client: n}, order.Reply{Seq: n}, order.Reply{Version: n}, order.Reply{Client: n, Seq: -n, Version: numbers[(i+5)%len(numbers)], Value: texts[i%len(texts)]})
	}
	return l
}

// wrongReplies are replies with an error that does not exist.
func wrongReplies() []order.Reply {
	var l []order.Reply
	for _, e := range errnos {
		l = append(l, order.Reply{E: e}, order.Reply{Client: 3, Seq: 4, E: e, Value: "v", Version: 5, Names: []string{"a", "", "b"}})
	}
	return l
}

// tails are bytes that may follow an encoding; some of them look like encodings.
func tails() []string {
	return []string{"", "\x00", "\x09", "\x01\x05", "\xff\xff\xff", "tail", strings.Repeat("\x00", 20), string(order.Put(nil, wholeOrder(1, 1))), long(5000)}
}

// part is a part of an encoding: a number, or a text behind its length. The most is the greatest length, or the greatest number of names, and -1 for any other number.
type part struct {
	n    uint64
	text string
	most int
}

func numberPart(n int) part {
	if n < 0 {
		return part{n: uint64(-(n+1))*2 + 1, most: -1}
	}
	return part{n: uint64(n) * 2, most: -1}
}

func textPart(s string, most int) part { return part{n: uint64(len(s)), text: s, most: most} }

// partsOfOrder is the chapter's encoding of a request, in its parts.
func partsOfOrder(o order.Order) []part {
	var l []part
	for _, n := range []int{o.Client, o.Seq, o.Kind, o.Version, o.Session, o.Span} {
		l = append(l, numberPart(n))
	}
	return append(l, textPart(o.Path, 100), textPart(o.Value, 1000))
}

// partsOfReply is the chapter's encoding of a reply, in its parts.
func partsOfReply(r order.Reply) []part {
	var l []part
	for _, n := range []int{r.Client, r.Seq, int(r.E), r.Version} {
		l = append(l, numberPart(n))
	}
	l = append(l, textPart(r.Value, 1000), part{n: uint64(len(r.Names)), most: maxNames})
	for _, s := range r.Names {
		l = append(l, textPart(s, 1000))
	}
	return l
}

func (p part) bytes() []byte { return append(octet.Put(nil, p.n), p.text...) }

// tooWide is the part with its number in so many bytes too many.
func (p part) tooWide(more int) []byte {
	b := p.bytes()
	return slices.Concat([]byte{b[0] + byte(more)}, make([]byte, more), b[1:])
}

// tooLarge is the part with more than it may have.
func (p part) tooLarge() []byte {
	return append(octet.Put(nil, uint64(p.most+1)), strings.Repeat("\x00", p.most+1)...)
}

func joined(l []part) []byte {
	var b []byte
	for _, p := range l {
		b = append(b, p.bytes()...)
	}
	return b
}

// coder is what there is for requests, or for replies.
type coder struct {
	name string
	// All parts of these examples can be read; the wrong ones are those that decoding rejects all the same.
	right, wrong [][]part
	take         func(b []byte) outcome
}

// outcome is what decoding returns: the value only as whether it is the zero value, whether it may be, and its encoding.
type outcome struct {
	zero, may   bool
	again, rest []byte
	e           api.Errno
}

func takeOrder(b []byte) outcome {
	o, rest, e := order.Take(b)
	return outcome{zero: o == order.Order{}, may: isValid(o), again: joined(partsOfOrder(o)), rest: rest, e: e}
}

func takeReply(b []byte) outcome {
	r, rest, e := order.TakeReply(b)
	zero := len(r.Names) == 0 && reflect.DeepEqual(r, order.Reply{Names: r.Names})
	return outcome{zero: zero, may: r.E >= 0 && r.E <= 16 && len(r.Value) <= 1000 && len(r.Names) <= maxNames, again: joined(partsOfReply(r)), rest: rest, e: e}
}

// coders are those of requests and of replies.
func coders() []coder {
	orders := coder{name: "Take", take: takeOrder}
	for _, o := range validOrders() {
		orders.right = append(orders.right, partsOfOrder(o))
	}
	for _, o := range invalidOrders() {
		orders.wrong = append(orders.wrong, partsOfOrder(o))
	}
	replies := coder{name: "TakeReply", take: takeReply}
	for _, r := range rightReplies() {
		replies.right = append(replies.right, partsOfReply(r))
	}
	for _, r := range wrongReplies() {
		replies.wrong = append(replies.wrong, partsOfReply(r))
	}
	return []coder{orders, replies}
}

// within is s with bytes ahead of it, and spare capacity behind it, in one piece of memory.
func within(s string) (whole, piece []byte) {
	whole = []byte("<<<" + s + ">>>>>>>>>>>>>>>>>>>>>>>>>>>>>>>>")
	return whole, whole[3 : 3+len(s)]
}

// wantError checks that decoding returns this error, and else nothing.
func wantError(t *testing.T, c coder, b []byte, wanted api.Errno) {
	t.Helper()
	if got := c.take(b); got.e != wanted || !got.zero || len(got.rest) != 0 {
		t.Errorf("%s(%.200q): error %d, not %d, zero %v, %.20q behind", c.name, b, got.e, wanted, got.zero, got.rest)
	}
}

// wantTaken checks that decoding returns what is encoded like this, and the bytes behind.
func wantTaken(t *testing.T, c coder, encoding []byte, tail string) {
	t.Helper()
	got := c.take(append(slices.Clone(encoding), tail...))
	if got.e != api.OK || !bytes.Equal(got.again, encoding) || string(got.rest) != tail {
		t.Errorf("%s(%.200q, and %.20q): error %d, that of %.200q, %.20q behind", c.name, encoding, tail, got.e, got.again, got.rest)
	}
}

func wantMay(t *testing.T, o order.Order, want bool) {
	t.Helper()
	if isValid(o) != want {
		t.Fatalf("%.300q: the test contradicts itself", fmt.Sprint(o))
	}
	if order.May(o) != want {
		t.Errorf("May(%.300q) is not %v", fmt.Sprint(o), want)
	}
}

// Each kind with each set of fields.
func TestMayOfEachField(t *testing.T) {
	for kind, own := range used {
		for set := range 1 << len(fields) {
			want := true
			o, negative := order.Order{Client: 1, Seq: 1, Kind: kind}, order.Order{Seq: maxSeq, Kind: kind}
			for i, f := range fields {
				if set>>i&1 == 1 {
					want = want && slices.Contains(own, f)
					o, negative = filled(o, f, 0), filled(negative, f, 1)
				}
			}
			wantMay(t, o, want)
			wantMay(t, negative, want)
		}
		for _, f := range fields {
			for k := range len(numbers) * len(texts) {
				wantMay(t, filled(order.Order{Seq: 1, Kind: kind}, f, k), slices.Contains(own, f))
			}
		}
	}
}

func TestMayOfEachKind(t *testing.T) {
	for kind := -100; kind <= 300; kind++ {
		wantMay(t, order.Order{Seq: 1, Kind: kind}, kind >= 0 && kind <= 11)
		wantMay(t, order.Order{Seq: 1, Kind: kind, Path: "/a"}, kind >= 1 && kind <= 5 || kind == 10 || kind == 11)
	}
	for _, kind := range []int{1 << 8, 1 << 16, 1 << 32, 1<<32 + 1, -1 << 32, math.MinInt, math.MinInt + 1, math.MaxInt} {
		wantMay(t, order.Order{Seq: 1, Kind: kind}, false)
	}
}

func TestMayOfClientAndSeq(t *testing.T) {
	clients := map[int]bool{-1: false, 0: true, 1: true, 2: true, 500: true, 999: true, 1000: true, 1001: false, 1002: false, -1000: false, 1 << 32: false, 1<<32 + 1: false, -1 << 32: false, math.MinInt: false, math.MaxInt: false}
	seqs := map[int]bool{-1: false, 0: false, 1: true, 2: true, 1000: true, 1001: true, maxSeq - 1: true, maxSeq: true, maxSeq + 1: false, -maxSeq: false, 1 << 32: false, 1<<32 + 1: false, math.MinInt: false, math.MaxInt: false}
	for kind := range used {
		for client, ok := range clients {
			for seq, also := range seqs {
				o := wholeOrder(kind, 4)
				o.Client, o.Seq = client, seq
				wantMay(t, o, ok && also)
			}
		}
	}
}

func TestMayOfLongTexts(t *testing.T) {
	for kind, own := range used {
		for _, n := range []int{0, 1, 99, 100, 101, 102, 200, 999, 1000, 1001, 1002, 2000, 1 << 16, 1 << 20} {
			o := order.Order{Seq: 1, Kind: kind, Path: long(n)}
			wantMay(t, o, n == 0 || n <= 100 && slices.Contains(own, "Path"))
			o = order.Order{Seq: 1, Kind: kind, Value: long(n)}
			wantMay(t, o, n == 0 || n <= 1000 && slices.Contains(own, "Value"))
		}
	}
	wantMay(t, order.Order{Seq: 1, Kind: 1, Path: strings.Repeat("é", 50), Value: strings.Repeat("é", 500)}, true)
	wantMay(t, order.Order{Seq: 1, Kind: 1, Path: strings.Repeat("é", 50) + "a"}, false)
	wantMay(t, order.Order{Seq: 1, Kind: 3, Value: strings.Repeat("é", 500) + "a"}, false)
}

func TestMayOfTheExamples(t *testing.T) {
	for _, o := range validOrders() {
		wantMay(t, o, true)
	}
	for _, o := range invalidOrders() {
		wantMay(t, o, false)
	}
	wantMay(t, order.Order{Seq: 1, Kind: 2, Path: "/a", Value: "a"}, false)
}

func TestEncodingsWrittenOut(t *testing.T) {
	for want, o := range map[string]order.Order{
		"\x00\x00\x00\x00\x00\x00\x00\x00":                                         {},
		"\x00\x01\x02\x00\x00\x00\x00\x00\x00":                                     {Seq: 1},
		"\x01\x02\x01\x04\x01\x06\x01\x08\x01\x0a\x01\x0c\x01\x01p\x01\x02va":      {Client: 1, Seq: 2, Kind: 3, Version: 4, Session: 5, Span: 6, Path: "p", Value: "va"},
		"\x01\x01\x01\x03\x01\x05\x01\x07\x01\x09\x01\x0b\x00\x00":                 {Client: -1, Seq: -2, Kind: -3, Version: -4, Session: -5, Span: -6},
		"\x02\x07\xd0\x04\x77\x35\x94\x00\x01\x02\x00\x01\x0e\x00\x01\x02/a\x00":   {Client: 1000, Seq: maxSeq, Kind: 1, Path: "/a", Session: 7},
		"\x00\x01\x02\x01\x08\x08\xff\xff\xff\xff\xff\xff\xff\xff\x00\x00\x00\x00": {Seq: 1, Kind: 4, Version: math.MinInt},
		"\x00\x01\x02\x01\x12\x00\x00\x08\xff\xff\xff\xff\xff\xff\xff\xfe\x00\x00": {Seq: 1, Kind: 9, Span: math.MaxInt},
	} {
		if got := order.Put(nil, o); string(got) != want {
			t.Errorf("Put(nil, %q) = %q, not %q", fmt.Sprint(o), got, want)
		}
	}
	for want, r := range map[string]order.Reply{
		"\x00\x00\x00\x00\x00\x00":                                         {},
		"\x01\x02\x01\x04\x01\x06\x01\x08\x01\x01v\x01\x02\x01\x01n\x00":   {Client: 1, Seq: 2, E: 3, Version: 4, Value: "v", Names: []string{"n", ""}},
		"\x01\x01\x01\x03\x01\x05\x01\x07\x00\x01\x01\x00":                 {Client: -1, Seq: -2, E: -3, Version: -4, Names: []string{""}},
		"\x02\x07\xd0\x04\x77\x35\x94\x00\x01\x20\x00\x00\x00":             {Client: 1000, Seq: maxSeq, E: 16},
		"\x00\x00\x00\x08\xff\xff\xff\xff\xff\xff\xff\xff\x01\x02/a\x00":   {Version: math.MinInt, Value: "/a"},
		"\x08\xff\xff\xff\xff\xff\xff\xff\xfe\x00\x00\x00\x00\x01\x01\x00": {Client: math.MaxInt, Names: []string{""}},
	} {
		if got := order.PutReply(nil, r); string(got) != want {
			t.Errorf("PutReply(nil, %q) = %q, not %q", fmt.Sprint(r), got, want)
		}
	}
}

// checkMemory checks that a call with s changes neither that nor the bytes around it, and that its result is memory of its own.
func checkMemory(t *testing.T, what, s string, call func(b []byte) []byte) []byte {
	t.Helper()
	whole, piece := within(s)
	before := slices.Clone(whole)
	got := call(piece)
	kept := slices.Clone(got)
	if !bytes.Equal(whole, before) {
		t.Errorf("%s changed what it was given: %.100q, was %.100q", what, whole, before)
	}
	for i := range got[:cap(got)] {
		got[:cap(got)][i] ^= 0xff
	}
	if !bytes.Equal(whole, before) {
		t.Errorf("%s returns memory that it was given", what)
	}
	got = call(piece)
	for i := range whole {
		whole[i] ^= 0xff
	}
	if !bytes.Equal(got, kept) {
		t.Errorf("%s: the result changes with what was given, or is another one the second time", what)
	}
	return got
}

// Put does not ask whether the request is valid, nor PutReply whether the error exists.
func TestPutBehindBytes(t *testing.T) {
	for _, ahead := range []string{"", "x", "\x00", "some bytes", string(order.Put(nil, wholeOrder(3, 5))), long(3000)} {
		for _, o := range slices.Concat(validOrders(), invalidOrders(), []order.Order{{Path: long(101), Value: long(1001)}, {Kind: 12, Path: long(5000), Value: long(1 << 16)}}) {
			got := checkMemory(t, "Put", ahead, func(b []byte) []byte { return order.Put(b, o) })
			if want := ahead + string(joined(partsOfOrder(o))); string(got) != want {
				t.Errorf("Put(%.20q, %.300q) = %.300q, not %.300q", ahead, fmt.Sprint(o), got, want)
			}
		}
		for _, r := range slices.Concat(rightReplies(), wrongReplies(), []order.Reply{{Value: long(1001), Names: slices.Repeat([]string{long(1001)}, 201)}}) {
			got := checkMemory(t, "PutReply", ahead, func(b []byte) []byte { return order.PutReply(b, r) })
			if want := ahead + string(joined(partsOfReply(r))); string(got) != want {
				t.Errorf("PutReply(%.20q, %.300q) = %.300q, not %.300q", ahead, fmt.Sprint(r), got, want)
			}
		}
	}
	if !bytes.Equal(order.PutReply(nil, order.Reply{Names: nil}), order.PutReply([]byte{}, order.Reply{Names: []string{}})) {
		t.Errorf("nil and empty names are encoded differently")
	}
}

func TestNamesAreLeftAsTheyAre(t *testing.T) {
	names := []string{"b", "", "a", "beyond"}
	r := order.Reply{Seq: 1, Names: names[:3]}
	order.PutReply(nil, r)
	order.Same(r, order.Reply{Seq: 1, Names: names[:2]})
	if !slices.Equal(names, []string{"b", "", "a", "beyond"}) {
		t.Errorf("the names are now %q", names)
	}
	b := order.PutReply(nil, r)
	one, rest, _ := order.TakeReply(append(slices.Clone(b), "tail"...))
	two, _, _ := order.TakeReply(b)
	clear(b)
	clear(rest)
	one.Names[0], one.Names = "changed", append(one.Names, "more")
	if !slices.Equal(two.Names, names[:3]) || !slices.Equal(one.Names, []string{"changed", "", "a", "more"}) {
		t.Errorf("the decoded names are now %q and %q", one.Names, two.Names)
	}
}

// Decoding changes nothing, and what it returns is new: with an error, and without.
func TestTakeLeavesItsBytes(t *testing.T) {
	for _, c := range coders() {
		for _, l := range slices.Concat(c.right, c.wrong) {
			b := string(joined(l))
			for _, s := range append([]string{b, b[:len(b)/2], b[:len(b)-1]}, tailed(b)...) {
				checkMemory(t, c.name, s, func(b []byte) []byte { return c.take(b).rest })
			}
		}
		for _, s := range []string{"", "\x00", "\x09", "\x01\x00"} {
			checkMemory(t, c.name, s, func(b []byte) []byte { return c.take(b).rest })
		}
	}
}

func tailed(b string) []string {
	var l []string
	for _, tail := range tails() {
		l = append(l, b+tail)
	}
	return l
}

// P12.2: what was encoded comes back, and the bytes behind.
func TestTakeOfPut(t *testing.T) {
	for _, tail := range tails() {
		for _, o := range validOrders() {
			got, rest, e := order.Take(append(order.Put(nil, o), tail...))
			if got != o || string(rest) != tail || e != api.OK {
				t.Errorf("%.300q and %.20q: %.300q, %.20q, error %d", fmt.Sprint(o), tail, fmt.Sprint(got), rest, e)
			}
		}
		for _, r := range rightReplies() {
			got, rest, e := order.TakeReply(append(order.PutReply(nil, r), tail...))
			if !isSame(got, r) || !order.Same(got, r) || string(rest) != tail || e != api.OK {
				t.Errorf("%.300q and %.20q: %.300q, %.20q, error %d", fmt.Sprint(r), tail, fmt.Sprint(got), rest, e)
			}
		}
	}
}

func TestTakeOfWhatMayNotBe(t *testing.T) {
	for _, c := range coders() {
		for _, l := range c.wrong {
			for _, tail := range tails() {
				wantError(t, c, append(joined(l), tail...), api.ErrForm)
			}
		}
	}
}

func TestTakeOfEachError(t *testing.T) {
	c := coder{name: "TakeReply", take: takeReply}
	for e := -300; e <= 300; e++ {
		b := order.PutReply(nil, order.Reply{Client: 1, Seq: 1, E: api.Errno(e), Names: []string{"n"}})
		r, rest, got := order.TakeReply(append(b, "tail"...))
		if e < 0 || e > 16 {
			wantError(t, c, b, api.ErrForm)
		} else if int(r.E) != e || string(rest) != "tail" || got != api.OK {
			t.Errorf("a reply with the error %d: %q, %q, error %d", e, fmt.Sprint(r), rest, got)
		}
	}
}

// Whatever is cut off, bytes are missing: also if the request may not be.
func TestTakeOfCutBytes(t *testing.T) {
	for _, c := range coders() {
		for _, l := range slices.Concat(c.right, c.wrong) {
			b := joined(l)
			for n := range b {
				wantError(t, c, b[:n], api.ErrShort)
			}
		}
		wantError(t, c, nil, api.ErrShort)
	}
}

// wrongAt are the ways in which one part can be wrong, and the errors.
func wrongAt(p part) map[api.Errno][]byte {
	m := map[api.Errno][]byte{api.ErrForm: p.tooWide(1), api.ErrShort: nil}
	if p.most >= 0 {
		m[api.ErrLarge] = p.tooLarge()
	}
	return m
}

// assembled is the encoding with other bytes in place of the part at i; behind none of them nothing follows.
func assembled(l []part, i int, with []byte, behind []byte) []byte {
	if with == nil {
		return joined(l[:i])
	}
	return slices.Concat(joined(l[:i]), with, behind)
}

func TestTakeOfOneWrongPart(t *testing.T) {
	for _, c := range coders() {
		for _, l := range slices.Concat(c.right, c.wrong) {
			for i, p := range l {
				for more := 1; more < 9; more++ {
					wantError(t, c, assembled(l, i, p.tooWide(more), joined(l[i+1:])), api.ErrForm)
				}
				for e, b := range wrongAt(p) {
					wantError(t, c, assembled(l, i, b, joined(l[i+1:])), e)
				}
				wantError(t, c, assembled(l, i, []byte{9}, joined(l[i+1:])), api.ErrForm)
				wantError(t, c, assembled(l, i, []byte{255}, nil), api.ErrForm)
			}
		}
	}
}

// The error is that of the first part that is wrong, whatever is wrong behind it, and whether the request may be or not.
func TestTakeOfTwoWrongParts(t *testing.T) {
	for _, c := range coders() {
		for _, l := range slices.Concat(c.right, c.wrong) {
			l = l[:min(len(l), 9)]
			for j, q := range l {
				for i, p := range l[:j] {
					for _, behind := range wrongAt(q) {
						rest := assembled(l[i+1:], j-i-1, behind, joined(l[j+1:]))
						wantError(t, c, assembled(l, i, p.tooWide(1), rest), api.ErrForm)
						if p.most >= 0 {
							wantError(t, c, assembled(l, i, p.tooLarge(), rest), api.ErrLarge)
						}
					}
				}
			}
		}
	}
}

func TestTakeOfLongTexts(t *testing.T) {
	c := coders()
	for n, want := range map[int]api.Errno{0: api.OK, 99: api.OK, 100: api.OK, 101: api.ErrLarge, 102: api.ErrLarge, 1000: api.ErrLarge, 1 << 16: api.ErrLarge} {
		o := order.Order{Seq: 1, Kind: 2, Path: long(n)}
		if got := c[0].take(order.Put(nil, o)); got.e != want {
			t.Errorf("a path of %d bytes: error %d, not %d", n, got.e, want)
		}
	}
	for n, want := range map[int]api.Errno{0: api.OK, 101: api.OK, 999: api.OK, 1000: api.OK, 1001: api.ErrLarge, 1002: api.ErrLarge, 1 << 16: api.ErrLarge} {
		o := order.Order{Seq: 1, Kind: 3, Value: long(n)}
		if got := c[0].take(order.Put(nil, o)); got.e != want {
			t.Errorf("a value of %d bytes: error %d, not %d", n, got.e, want)
		}
		for _, r := range []order.Reply{{Value: long(n)}, {Names: []string{long(n)}}, {Names: []string{"a", long(n), ""}}, {E: 16, Value: "v", Names: append(slices.Repeat([]string{""}, 199), long(n))}} {
			if got := c[1].take(order.PutReply(nil, r)); got.e != want {
				t.Errorf("a value or a name of %d bytes: error %d, not %d", n, got.e, want)
			}
		}
	}
	// A text that is too long is that for a kind that does not use it too, and if its bytes are missing.
	wantError(t, c[0], order.Put(nil, order.Order{Seq: 1, Kind: 9, Path: long(101)}), api.ErrLarge)
	wantError(t, c[0], order.Put(nil, order.Order{Seq: 0, Kind: 12, Value: long(1001)}), api.ErrLarge)
	wantError(t, c[0], []byte("\x00\x01\x02\x01\x04\x00\x00\x00\x01\x65"), api.ErrLarge)
	wantError(t, c[0], []byte("\x00\x01\x02\x01\x04\x00\x00\x00\x08\xff\xff\xff\xff\xff\xff\xff\xff"), api.ErrLarge)
	wantError(t, c[1], []byte("\x00\x00\x00\x00\x02\x03\xe9"), api.ErrLarge)
	wantError(t, c[1], []byte("\x00\x00\x00\x00\x00\x01\x01\x02\x03\xe9"), api.ErrLarge)
}

func TestTakeOfManyNames(t *testing.T) {
	c := coders()[1]
	for n := range 260 {
		b := order.PutReply(nil, order.Reply{Seq: 1, Names: slices.Repeat([]string{"ab"}, n)})
		if n <= maxNames {
			wantTaken(t, c, b, "tail")
		} else {
			wantError(t, c, b, api.ErrLarge)
		}
	}
	wantTaken(t, c, order.PutReply(nil, order.Reply{Value: long(1000), Names: slices.Repeat([]string{long(1000)}, maxNames)}), "tail")
	// Too many are that if their bytes are missing too, or if one of them is wrong.
	wantError(t, c, []byte("\x00\x00\x00\x00\x00\x01\xc9"), api.ErrLarge)
	wantError(t, c, []byte("\x00\x00\x00\x00\x00\x01\xc9\x09"), api.ErrLarge)
	wantError(t, c, []byte("\x00\x00\x00\x00\x00\x01\xc8"), api.ErrShort)
	wantError(t, c, []byte("\x00\x00\x00\x00\x00\x01\xc8\x00\x09"), api.ErrForm)
	wantError(t, c, []byte("\x00\x00\x00\x00\x00\x08\xff\xff\xff\xff\xff\xff\xff\xff"), api.ErrLarge)
}

// Of the numbers of a reply only its error must be in range.
func TestTakeReplyOfAnyNumbers(t *testing.T) {
	c := coder{name: "TakeReply", take: takeReply}
	for _, client := range append(numbers, 0) {
		for _, seq := range append(numbers, 0) {
			for _, version := range append(numbers, 0) {
				wantTaken(t, c, order.PutReply(nil, order.Reply{Client: client, Seq: seq, Version: version, E: 16}), "t")
			}
		}
	}
}

// isSame is the chapter's definition of equal replies, with nil and empty names alike.
func isSame(a, b order.Reply) bool {
	return bytes.Equal(joined(partsOfReply(a)), joined(partsOfReply(b)))
}

func wantSame(t *testing.T, a, b order.Reply, want bool) {
	t.Helper()
	if order.Same(a, b) != want || order.Same(b, a) != want {
		t.Errorf("Same(%.300q, %.300q) is not %v", fmt.Sprint(a), fmt.Sprint(b), want)
	}
}

// changed are replies each of which differs from r in one field, or in its names.
func changed(r order.Reply) []order.Reply {
	l := slices.Repeat([]order.Reply{r}, 9)
	l[0].Client++
	l[1].Seq++
	l[2].E++
	l[3].Value += "x"
	l[4].Version++
	l[5].Client = ^r.Client
	l[6].Seq = ^r.Seq
	l[7].E = ^r.E
	l[8].Version = ^r.Version
	for _, names := range [][]string{append(slices.Clone(r.Names), ""), append(slices.Clone(r.Names), "x"), append([]string{"y"}, r.Names...)} {
		r.Names = names
		l = append(l, r)
	}
	return l
}

func TestSame(t *testing.T) {
	all := slices.Concat(rightReplies(), wrongReplies(), []order.Reply{{Value: long(2000), Names: slices.Repeat([]string{"n"}, 500)}})
	for _, a := range all {
		for _, b := range all {
			wantSame(t, a, b, isSame(a, b))
		}
		again := a
		again.Names = slices.Clone(a.Names)
		wantSame(t, a, again, true)
		for _, b := range changed(a) {
			wantSame(t, a, b, false)
		}
	}
	wantSame(t, order.Reply{}, order.Reply{Names: []string{}}, true)
	wantSame(t, order.Reply{Names: []string{}}, order.Reply{Names: []string{}}, true)
	wantSame(t, order.Reply{Names: []string{""}}, order.Reply{}, false)
}

// One name changed, gone, or in the place of another one.
func TestSameOfNames(t *testing.T) {
	for _, n := range []int{1, 2, 3, 200, 300} {
		var names []string
		for i := range n {
			names = append(names, fmt.Sprintf("n%d", i))
		}
		for i := range names {
			other := slices.Clone(names)
			other[i] += "x"
			wantSame(t, order.Reply{Names: names}, order.Reply{Names: other}, false)
			other[i] = ""
			wantSame(t, order.Reply{Names: names}, order.Reply{Names: other}, false)
			other = slices.Delete(slices.Clone(names), i, i+1)
			wantSame(t, order.Reply{Names: names}, order.Reply{Names: other}, false)
			if i > 0 {
				other = slices.Clone(names)
				other[i-1], other[i] = other[i], other[i-1]
				wantSame(t, order.Reply{Names: names}, order.Reply{Names: other}, false)
			}
		}
	}
	wantSame(t, order.Reply{Names: []string{"ab", "c"}}, order.Reply{Names: []string{"a", "bc"}}, false)
	wantSame(t, order.Reply{Value: "a", Names: []string{"b"}}, order.Reply{Value: "b", Names: []string{"a"}}, false)
	wantSame(t, order.Reply{Client: 1, Seq: 2}, order.Reply{Client: 2, Seq: 1}, false)
	wantSame(t, order.Reply{E: 1, Version: 2}, order.Reply{E: 2, Version: 1}, false)
}

func randomBytes(r *rand.Rand, n int) string {
	b := make([]byte, n)
	for i := range b {
		b[i] = byte(r.IntN(256)) >> r.IntN(8)
	}
	return string(b)
}

// randomLength is often short, and sometimes the most.
func randomLength(r *rand.Rand, most int) int {
	if r.IntN(8) == 0 {
		return most - r.IntN(2)
	}
	return r.IntN(1 + most>>r.IntN(8))
}

// randomInt is of any width and sign.
func randomInt(r *rand.Rand) int { return int(r.Uint64()) >> r.IntN(64) }

func randomOrder(r *rand.Rand) order.Order {
	o := order.Order{Client: r.IntN(1001), Seq: 1 + r.IntN(maxSeq>>r.IntN(30)), Kind: r.IntN(12)}
	for _, f := range used[o.Kind] {
		switch f {
		case "Path":
			o.Path = randomBytes(r, randomLength(r, 100))
		case "Value":
			o.Value = randomBytes(r, randomLength(r, 1000))
		case "Version":
			o.Version = randomInt(r)
		case "Session":
			o.Session = randomInt(r)
		case "Span":
			o.Span = randomInt(r)
		}
	}
	return o
}

func randomReply(r *rand.Rand) order.Reply {
	x := order.Reply{Client: randomInt(r), Seq: randomInt(r), E: api.Errno(r.IntN(17)), Value: randomBytes(r, randomLength(r, 1000)), Version: randomInt(r)}
	for range randomLength(r, maxNames) {
		x.Names = append(x.Names, randomBytes(r, r.IntN(1+30>>r.IntN(6))))
	}
	return x
}

// P12.2: many requests and replies, one behind the other, come back one by one.
func TestManyComeBack(t *testing.T) {
	for seed := range uint64(400) {
		r := rand.New(rand.NewPCG(seed, 12))
		tail := randomBytes(r, r.IntN(40))
		var orders []order.Order
		var replies []order.Reply
		var b []byte
		for range 1 + r.IntN(8) {
			orders, replies = append(orders, randomOrder(r)), append(replies, randomReply(r))
			b = order.PutReply(order.Put(b, orders[len(orders)-1]), replies[len(replies)-1])
		}
		b = append(b, tail...)
		for i := range orders {
			o, rest, e := order.Take(b)
			x, rest, also := order.TakeReply(rest)
			if o != orders[i] || !isSame(x, replies[i]) || e != api.OK || also != api.OK {
				t.Fatalf("seed %d: %.300q, error %d, not %.300q; %.300q, error %d, not %.300q", seed, fmt.Sprint(o), e, fmt.Sprint(orders[i]), fmt.Sprint(x), also, fmt.Sprint(replies[i]))
			}
			b = rest
		}
		if string(b) != tail {
			t.Errorf("seed %d: %q is left, not %q", seed, b, tail)
		}
	}
}

// checkUnique checks for any bytes that what is decoded of them, encoded again and followed by what is left, is these bytes, and that it may be. It tells how often something was decoded.
func checkUnique(t *testing.T, b []byte) int {
	t.Helper()
	decoded := 0
	if o, rest, e := order.Take(b); e == api.OK {
		decoded++
		if again := append(order.Put(nil, o), rest...); !bytes.Equal(again, b) || !isValid(o) {
			t.Errorf("Take(%.300q) is that of %.300q, or not valid: %.300q", b, again, fmt.Sprint(o))
		}
	} else if o != (order.Order{}) || len(rest) != 0 {
		t.Errorf("Take(%.300q): error %d, and %.300q, %.20q", b, e, fmt.Sprint(o), rest)
	}
	if r, rest, e := order.TakeReply(b); e == api.OK {
		decoded++
		if again := append(order.PutReply(nil, r), rest...); !bytes.Equal(again, b) || r.E < 0 || r.E > 16 || len(r.Names) > maxNames {
			t.Errorf("TakeReply(%.300q) is that of %.300q, or may not be: %.300q", b, again, fmt.Sprint(r))
		}
	} else if !isSame(r, order.Reply{}) || len(rest) != 0 {
		t.Errorf("TakeReply(%.300q): error %d, and %.300q, %.20q", b, e, fmt.Sprint(r), rest)
	}
	return decoded
}

// wantDecoded checks that something was decoded often enough for a test to tell anything.
func wantDecoded(t *testing.T, decoded, least int) {
	t.Helper()
	if decoded < least {
		t.Errorf("only %d times something was decoded", decoded)
	}
}

// P12.2: all short rows of a few bytes.
func TestEncodingsOfShortRowsAreUnique(t *testing.T) {
	const alphabet = "\x00\x01\x02\x09"
	decoded := 0
	var walk func(b []byte)
	walk = func(b []byte) {
		decoded += checkUnique(t, b)
		if len(b) == 9 {
			return
		}
		for i := range alphabet {
			walk(append(slices.Clone(b), alphabet[i]))
		}
	}
	walk(nil)
	wantDecoded(t, decoded, 1000)
}

// P12.2: encodings with each byte changed, and with bytes taken out or put in.
func TestEncodingsOfChangedRowsAreUnique(t *testing.T) {
	decoded := 0
	for _, c := range coders() {
		for _, l := range slices.Concat(c.right, c.wrong) {
			b := joined(l)
			if len(b) > 60 {
				continue
			}
			for i := range b {
				other := slices.Clone(b)
				for _, x := range []byte{0, 1, 2, 3, 8, 9, 0x7f, 0x80, 0xff, b[i] + 1, b[i] - 1, b[i] ^ 1, b[i] ^ 0x80} {
					other[i] = x
					decoded += checkUnique(t, other)
				}
				decoded += checkUnique(t, slices.Delete(slices.Clone(b), i, i+1))
				decoded += checkUnique(t, slices.Insert(slices.Clone(b), i, 0))
				decoded += checkUnique(t, slices.Insert(slices.Clone(b), i, b[i]))
			}
		}
	}
	wantDecoded(t, decoded, 10000)
}

// P12.2: pseudorandom rows, and encodings with one byte changed, or cut off.
func TestEncodingsOfRandomRowsAreUnique(t *testing.T) {
	pieces := append(slices.Repeat([]string{"\x00"}, 12), "\x01\x02", "\x01\x02", "\x01\x04", "\x01\x01", "\x01\x0c", "\x02\x01\x00", "\x01\x00", "\x09", "a", "\x01\x01x", "\x01\x02/a")
	ofRandom, ofChanged := 0, 0
	for seed := range uint64(20000) {
		r := rand.New(rand.NewPCG(seed, 13))
		ofRandom += checkUnique(t, []byte(randomBytes(r, r.IntN(40))))
		var row []byte
		for range 5 + r.IntN(10) {
			row = append(row, pieces[r.IntN(len(pieces))]...)
		}
		ofRandom += checkUnique(t, row)
		b := order.Put(nil, randomOrder(r))
		if r.IntN(4) == 0 {
			b = order.PutReply(nil, randomReply(r))
		}
		b = append(b, randomBytes(r, r.IntN(5))...)
		ofChanged += checkUnique(t, b[:r.IntN(len(b)+1)])
		b[r.IntN(min(len(b), 1+len(b)>>r.IntN(6)))] = byte(r.IntN(256)) >> r.IntN(8)
		ofChanged += checkUnique(t, b)
	}
	wantDecoded(t, ofRandom, 1000)
	wantDecoded(t, ofChanged, 1000)
}

// P12.2: different requests, and different replies, have different encodings.
func TestNoTwoAreEncodedAlike(t *testing.T) {
	orders, replies := map[string]order.Order{}, map[string]order.Reply{}
	addOrder := func(o order.Order) {
		b := string(order.Put(nil, o))
		if other, ok := orders[b]; ok && other != o {
			t.Errorf("%.300q and %.300q: %.300q", fmt.Sprint(o), fmt.Sprint(other), b)
		}
		orders[b] = o
	}
	addReply := func(r order.Reply) {
		b := string(order.PutReply(nil, r))
		if other, ok := replies[b]; ok && !order.Same(other, r) {
			t.Errorf("%.300q and %.300q: %.300q", fmt.Sprint(r), fmt.Sprint(other), b)
		}
		replies[b] = r
	}
	for _, o := range slices.Concat(validOrders(), invalidOrders()) {
		addOrder(o)
		for k := range len(numbers) {
			for _, f := range fields {
				addOrder(filled(o, f, k))
			}
		}
	}
	for _, r := range slices.Concat(rightReplies(), wrongReplies()) {
		addReply(r)
		for _, other := range changed(r) {
			addReply(other)
		}
	}
}

func FuzzUnique(f *testing.F) {
	f.Add([]byte("\x01\x02\x01\x04\x01\x06\x01\x01\x00\x00\x01\x02/a\x01\x01x"))
	f.Add([]byte("\x01\x02\x01\x04\x01\x06\x01\x08\x01\x01v\x01\x02\x01\x01n\x00"))
	f.Fuzz(func(t *testing.T, b []byte) { checkUnique(t, b) })
}

// Fuzzed fields: May against its definition, and what is encoded comes back if it may be.
func FuzzFields(f *testing.F) {
	f.Add(1, 2, 3, "/a", "x", -1, 0, 0, "tail")
	f.Add(1000, maxSeq, 6, "", "", 0, 7, 8, "")
	f.Fuzz(func(t *testing.T, client, seq, kind int, path, value string, version, session, span int, tail string) {
		o := order.Order{Client: client, Seq: seq, Kind: kind, Path: path, Value: value, Version: version, Session: session, Span: span}
		wantMay(t, o, isValid(o))
		c, b := coder{name: "Take", take: takeOrder}, order.Put(nil, o)
		switch {
		case isValid(o):
			wantTaken(t, c, b, tail)
		case len(path) > 100 || len(value) > 1000:
			wantError(t, c, append(b, tail...), api.ErrLarge)
		default:
			wantError(t, c, append(b, tail...), api.ErrForm)
		}
		r := order.Reply{Client: client, Seq: seq, E: api.Errno(kind), Value: value, Version: version, Names: strings.Split(path, "/")}
		got, rest, e := order.TakeReply(append(order.PutReply(nil, r), tail...))
		if e == api.OK && (!order.Same(got, r) || string(rest) != tail) || e == api.OK && (kind < 0 || kind > 16) {
			t.Errorf("%.300q and %.20q: %.300q, %.20q, error %d", fmt.Sprint(r), tail, fmt.Sprint(got), rest, e)
		}
	})
}
