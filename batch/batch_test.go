package batch_test

import (
	"crypto/sha256"
	"encoding/hex"
	"fmt"
	"math"
	"math/big"
	"slices"
	"strings"
	"testing"

	"consistory/api"
	"consistory/batch"
	"consistory/order"
)

const (
	maxOrders = 10
	maxClient = 1000
	maxSeq    = 1_000_000_000
)

func long(n int) string { return strings.Repeat("a", n) }

// number is the encoding of a number, as the chapter of package octet describes it.
func number(n uint64) string {
	b := new(big.Int).SetUint64(n).Bytes()
	return string([]byte{byte(len(b))}) + string(b)
}

// wideNumber is a number in so many bytes more than its encoding has.
func wideNumber(n uint64, more int) string {
	s := number(n)
	return string([]byte{s[0] + byte(more)}) + strings.Repeat("\x00", more) + s[1:]
}

func signed(n int) string {
	if n < 0 {
		return number(uint64(-(n+1))*2 + 1)
	}
	return number(uint64(n) * 2)
}

func text(s string) string { return number(uint64(len(s))) + s }

// encoded is the encoding of a request, as the chapter of package order describes it.
func encoded(o order.Order) string {
	return signed(o.Client) + signed(o.Seq) + signed(o.Kind) + signed(o.Version) + signed(o.Session) + signed(o.Span) + text(o.Path) + text(o.Value)
}

func joined(l []order.Order) string {
	var s string
	for _, o := range l {
		s += encoded(o)
	}
	return s
}

// valueOf is the value of requests, be they a batch or not.
func valueOf(l []order.Order) string { return number(uint64(len(l))) + joined(l) }

// used tells for each kind which fields it uses.
var used = []struct{ path, value, version, session, span bool }{
	0:  {},
	1:  {path: true, value: true, session: true},
	2:  {path: true},
	3:  {path: true, value: true, version: true},
	4:  {path: true, version: true},
	5:  {path: true},
	6:  {session: true, span: true},
	7:  {session: true},
	8:  {session: true},
	9:  {span: true},
	10: {path: true},
	11: {path: true},
}

// isValid is the definition of a valid request in the chapter of package order, written out.
func isValid(o order.Order) bool {
	if o.Client < 0 || o.Client > maxClient || o.Seq < 1 || o.Seq > maxSeq || o.Kind < 0 || o.Kind >= len(used) {
		return false
	}
	u := used[o.Kind]
	return (u.path || o.Path == "") && (u.value || o.Value == "") && (u.version || o.Version == 0) && (u.session || o.Session == 0) && (u.span || o.Span == 0) &&
		len(o.Path) <= 100 && len(o.Value) <= 1000
}

// writtenOut are requests of each kind, with their encodings byte by byte.
func writtenOut() ([]order.Order, []string) {
	orders := []order.Order{
		{Client: 0, Seq: 1, Kind: 0},
		{Client: 1, Seq: 300, Kind: 1, Path: "/a", Value: "xy", Session: 4},
		{Client: 2, Seq: 5, Kind: 2, Path: "/a"},
		{Client: 1000, Seq: 7, Kind: 3, Path: "/", Value: "z", Version: -1},
		{Client: 128, Seq: 127, Kind: 4, Path: "/b/c", Version: 2},
		{Client: 2, Seq: 6, Kind: 5, Path: "/"},
		{Client: 3, Seq: maxSeq, Kind: 6, Session: 9, Span: 1000},
		{Client: 3, Seq: 1, Kind: 7, Session: -2},
		{Client: 3, Seq: 2, Kind: 8, Session: 256},
		{Client: 4, Seq: 1, Kind: 9, Span: 65536},
		{Client: 4, Seq: 2, Kind: 10, Path: "odd"},
		{Client: 4, Seq: 3, Kind: 11},
	}
	bytes := []string{
		"\x00" + "\x01\x02" + "\x00" + "\x00" + "\x00" + "\x00" + "\x00" + "\x00",
		"\x01\x02" + "\x02\x02\x58" + "\x01\x02" + "\x00" + "\x01\x08" + "\x00" + "\x01\x02\x2f\x61" + "\x01\x02\x78\x79",
		"\x01\x04" + "\x01\x0a" + "\x01\x04" + "\x00" + "\x00" + "\x00" + "\x01\x02\x2f\x61" + "\x00",
		"\x02\x07\xd0" + "\x01\x0e" + "\x01\x06" + "\x01\x01" + "\x00" + "\x00" + "\x01\x01\x2f" + "\x01\x01\x7a",
		"\x02\x01\x00" + "\x01\xfe" + "\x01\x08" + "\x01\x04" + "\x00" + "\x00" + "\x01\x04\x2f\x62\x2f\x63" + "\x00",
		"\x01\x04" + "\x01\x0c" + "\x01\x0a" + "\x00" + "\x00" + "\x00" + "\x01\x01\x2f" + "\x00",
		"\x01\x06" + "\x04\x77\x35\x94\x00" + "\x01\x0c" + "\x00" + "\x01\x12" + "\x02\x07\xd0" + "\x00" + "\x00",
		"\x01\x06" + "\x01\x02" + "\x01\x0e" + "\x00" + "\x01\x03" + "\x00" + "\x00" + "\x00",
		"\x01\x06" + "\x01\x04" + "\x01\x10" + "\x00" + "\x02\x02\x00" + "\x00" + "\x00" + "\x00",
		"\x01\x08" + "\x01\x02" + "\x01\x12" + "\x00" + "\x00" + "\x03\x02\x00\x00" + "\x00" + "\x00",
		"\x01\x08" + "\x01\x04" + "\x01\x14" + "\x00" + "\x00" + "\x00" + "\x01\x03\x6f\x64\x64" + "\x00",
		"\x01\x08" + "\x01\x06" + "\x01\x16" + "\x00" + "\x00" + "\x00" + "\x00" + "\x00",
	}
	return orders, bytes
}

// greatOrders are valid requests with as much of each field as there may be.
func greatOrders() []order.Order {
	return []order.Order{
		{Client: maxClient, Seq: maxSeq, Kind: 1, Path: long(100), Value: long(1000), Session: math.MaxInt},
		{Client: maxClient, Seq: maxSeq, Kind: 3, Path: long(100), Value: strings.Repeat("\xff", 1000), Version: math.MinInt},
		{Client: 0, Seq: 1, Kind: 6, Session: math.MinInt, Span: math.MaxInt},
	}
}

// batches are batches of each number of requests.
func batches() [][]order.Order {
	orders, _ := writtenOut()
	var l [][]order.Order
	for n := range maxOrders + 1 {
		l = append(l, orders[:n], orders[len(orders)-n:], slices.Repeat(orders[3:4], n))
	}
	return append(l, greatOrders(), slices.Repeat(greatOrders()[:1], maxOrders), slices.Repeat(orders[:1], maxOrders))
}

// invalidOrders are requests that are not valid, each in one way, and then in several.
func invalidOrders() []order.Order {
	l := []order.Order{
		{Client: -1, Seq: 1}, {Client: maxClient + 1, Seq: 1}, {Client: math.MinInt, Seq: 1}, {Client: math.MaxInt, Seq: 1},
		{Client: 1, Seq: 0}, {Client: 1, Seq: -1}, {Client: 1, Seq: maxSeq + 1}, {Client: 1, Seq: math.MinInt}, {Client: 1, Seq: math.MaxInt},
		{Seq: 1, Kind: -1}, {Seq: 1, Kind: 12}, {Seq: 1, Kind: 256}, {Seq: 1, Kind: math.MinInt}, {Seq: 1, Kind: math.MaxInt},
		{Seq: 1, Kind: 1, Path: long(101)}, {Seq: 1, Kind: 1, Value: long(1001)}, {Seq: 1, Kind: 3, Path: "/a", Value: long(1001)}, {Seq: 1, Kind: 10, Path: long(101)},
		{}, {Client: -1, Seq: -1, Kind: -1, Path: "/a", Value: "x", Version: 1, Session: 1, Span: 1},
	}
	for kind := range used {
		for _, o := range []order.Order{{Path: "/a"}, {Value: "x"}, {Version: 1}, {Version: -1}, {Session: 1}, {Session: -1}, {Span: 1}, {Span: -1}} {
			o.Client, o.Seq, o.Kind = 1, 1, kind
			if !isValid(o) {
				l = append(l, o)
			}
		}
	}
	return l
}

// with is l with o in a place.
func with(l []order.Order, place int, o order.Order) []order.Order {
	l = slices.Clone(l)
	l[place] = o
	return l
}

var marked = order.Order{Client: -7, Path: "mark"}

// padded is a copy of l with marks behind it, in its spare capacity.
func padded(l []order.Order) []order.Order {
	c := append(slices.Clone(l), marked, marked, marked)
	return c[: len(l) : len(l)+3]
}

// wantKeptOrders checks that nothing was written to what padded made of l.
func wantKeptOrders(t *testing.T, l, c []order.Order) {
	t.Helper()
	if !slices.Equal(c, l) || !slices.Equal(c[len(c):len(c)+3], []order.Order{marked, marked, marked}) {
		t.Errorf("the requests that were given are changed: %.1000q", fmt.Sprint(c[:cap(c)]))
	}
}

// encode is Encode, which must leave what it is given.
func encode(t *testing.T, l []order.Order) (string, api.Errno) {
	t.Helper()
	c := padded(l)
	s, e := batch.Encode(c)
	wantKeptOrders(t, l, c)
	return s, e
}

func wantEncoded(t *testing.T, l []order.Order, want string) {
	t.Helper()
	if s, e := encode(t, l); e != api.OK || s != want {
		t.Errorf("Encode(%.500q) = %.500q, error %d, not %.500q", fmt.Sprint(l), s, e, want)
	}
}

// wantNotEncoded checks that this error comes, and nothing with it.
func wantNotEncoded(t *testing.T, l []order.Order, want api.Errno) {
	t.Helper()
	if s, e := encode(t, l); e != want || s != "" {
		t.Errorf("Encode(%.500q) = %.500q, error %d, not %d", fmt.Sprint(l), s, e, want)
	}
}

func wantDecoded(t *testing.T, s string, want []order.Order) {
	t.Helper()
	if l, e := batch.Decode(s); e != api.OK || !slices.Equal(l, want) {
		t.Errorf("Decode(%.500q) = %.500q, error %d, not %.500q", s, fmt.Sprint(l), e, fmt.Sprint(want))
	}
}

// wantNotDecoded checks that ErrForm comes, and nothing with it.
func wantNotDecoded(t *testing.T, s string) {
	t.Helper()
	if l, e := batch.Decode(s); e != api.ErrForm || len(l) != 0 {
		t.Errorf("Decode(%.500q) = %.500q, error %d", s, fmt.Sprint(l), e)
	}
}

// The tests' own encoding is what is written out, and their requests are valid or not as package order says.
func TestTheTestsThemselves(t *testing.T) {
	orders, bytes := writtenOut()
	for i, o := range orders {
		if encoded(o) != bytes[i] {
			t.Errorf("%v: %q, not %q", o, encoded(o), bytes[i])
		}
	}
	for _, o := range slices.Concat(orders, greatOrders()) {
		if !isValid(o) || !order.May(o) {
			t.Errorf("%.300q is not valid", fmt.Sprint(o))
		}
	}
	for _, o := range invalidOrders() {
		if isValid(o) || order.May(o) {
			t.Errorf("%.300q is valid", fmt.Sprint(o))
		}
	}
}

// The values of no request, of one, and of 10, byte by byte.
func TestWrittenOut(t *testing.T) {
	orders, bytes := writtenOut()
	for _, none := range [][]order.Order{nil, {}} {
		wantEncoded(t, none, "\x00")
	}
	wantDecoded(t, "\x00", nil)
	for i, o := range orders {
		wantEncoded(t, []order.Order{o}, "\x01\x01"+bytes[i])
		wantDecoded(t, "\x01\x01"+bytes[i], []order.Order{o})
	}
	for _, from := range []int{0, 1, 2} {
		l, s := orders[from:from+10], "\x01\x0a"+strings.Join(bytes[from:from+10], "")
		wantEncoded(t, l, s)
		wantDecoded(t, s, l)
	}
}

func TestEachNumberOfRequests(t *testing.T) {
	for _, l := range batches() {
		wantEncoded(t, l, valueOf(l))
		wantDecoded(t, valueOf(l), l)
	}
}

// A value is one of all requests in their order, be they the same, of one client, or in any order of their numbers.
func TestOrderOfRequests(t *testing.T) {
	orders, _ := writtenOut()
	for i, a := range orders {
		for k, b := range orders {
			l := []order.Order{a, b}
			wantEncoded(t, l, valueOf(l))
			wantDecoded(t, valueOf(l), l)
			back, _ := encode(t, []order.Order{b, a})
			if s, _ := encode(t, l); (s == back) != (i == k) {
				t.Errorf("%v and %v, in both orders: %q, %q", a, b, s, back)
			}
		}
	}
}

// More than 10 requests have ErrLarge, also if some of them are not valid; what would be their value has ErrForm.
func TestTooManyRequests(t *testing.T) {
	orders, _ := writtenOut()
	for _, n := range []int{11, 12, 100, 255, 256, 257, 266, 65536} {
		many := slices.Repeat(orders, n/len(orders)+1)[:n]
		wantNotEncoded(t, many, api.ErrLarge)
		if n < 1000 {
			wantNotDecoded(t, valueOf(many))
		}
		for _, place := range []int{0, 1, 9, 10, n - 1} {
			wantNotEncoded(t, with(many, place, order.Order{}), api.ErrLarge)
			wantNotEncoded(t, with(many, place, invalidOrders()[0]), api.ErrLarge)
		}
		wantNotEncoded(t, make([]order.Order, n), api.ErrLarge)
	}
	for place := range 11 {
		for _, o := range invalidOrders() {
			wantNotEncoded(t, with(orders[:11], place, o), api.ErrLarge)
		}
	}
}

// A request that is not valid has ErrArg, wherever it is; its value, which can be read otherwise, has ErrForm.
func TestRequestsThatAreNotValid(t *testing.T) {
	orders, _ := writtenOut()
	for n := 1; n <= maxOrders; n++ {
		for place := range n {
			for _, o := range invalidOrders() {
				l := with(orders[:n], place, o)
				wantNotEncoded(t, l, api.ErrArg)
				wantNotDecoded(t, valueOf(l))
			}
		}
		wantNotEncoded(t, make([]order.Order, n), api.ErrArg)
		wantNotDecoded(t, valueOf(make([]order.Order, n)))
	}
}

func TestNoText(t *testing.T) {
	wantNotDecoded(t, "")
}

func TestCutOff(t *testing.T) {
	for _, l := range batches() {
		s := valueOf(l)
		for i := range s {
			wantNotDecoded(t, s[:i])
		}
	}
}

func TestBytesBehind(t *testing.T) {
	orders, bytes := writtenOut()
	for _, l := range batches() {
		s := valueOf(l)
		for c := range 256 {
			wantNotDecoded(t, s+string([]byte{byte(c)}))
		}
		for _, tail := range []string{"\x00\x00", bytes[0], bytes[1], s, valueOf(orders[:1]), long(5000)} {
			wantNotDecoded(t, s+tail)
		}
	}
}

// The number that a value begins with must be that of the requests that follow, at most 10, and written as numbers are.
func TestNumberOfRequests(t *testing.T) {
	orders, _ := writtenOut()
	orders = append(orders, orders[0])
	wrong := []uint64{14, 100, 127, 128, 255, 256, 65536, 1 << 32, 1 << 63, math.MaxUint64, math.MaxInt64}
	for n := range len(orders) + 1 {
		s := joined(orders[:n])
		for k := range len(orders) + 1 {
			if n == k && n <= maxOrders {
				wantDecoded(t, number(uint64(k))+s, orders[:n])
			} else {
				wantNotDecoded(t, number(uint64(k))+s)
			}
		}
		for _, k := range wrong {
			wantNotDecoded(t, number(k)+s)
			wantNotDecoded(t, number(k+uint64(n))+s)
		}
		for more := 1; more <= 8; more++ {
			wantNotDecoded(t, wideNumber(uint64(n), more)+s)
		}
		// There are no numbers of more than 8 bytes.
		for width := 9; width < 256; width++ {
			wantNotDecoded(t, string([]byte{byte(width)})+s)
			wantNotDecoded(t, string([]byte{byte(width), byte(n)})+s)
		}
	}
}

// Each number in a request, written in a longer way.
func TestWideNumbers(t *testing.T) {
	orders, bytes := writtenOut()
	for i, o := range orders {
		parts := []string{signed(o.Client), signed(o.Seq), signed(o.Kind), signed(o.Version), signed(o.Session), signed(o.Span), number(uint64(len(o.Path))), o.Path, number(uint64(len(o.Value))), o.Value}
		if strings.Join(parts, "") != bytes[i] {
			t.Fatalf("%q, not %q", parts, bytes[i])
		}
		for k, part := range parts {
			if k == 7 || k == 9 {
				continue
			}
			for more := 1; int(part[0])+more <= 8; more++ {
				l := slices.Clone(parts)
				l[k] = string([]byte{part[0] + byte(more)}) + strings.Repeat("\x00", more) + part[1:]
				s := strings.Join(l, "")
				wantNotDecoded(t, "\x01\x01"+s)
				wantNotDecoded(t, "\x01\x02"+s+bytes[0])
				wantNotDecoded(t, "\x01\x02"+bytes[0]+s)
			}
		}
	}
}

// What is decoded is the caller's.
func TestDecodedIsOwn(t *testing.T) {
	for _, l := range batches() {
		one, _ := batch.Decode(valueOf(l))
		two, _ := batch.Decode(valueOf(l))
		for i := range one[:cap(one)] {
			one[:cap(one)][i] = marked
		}
		if !slices.Equal(two, l) {
			t.Errorf("%.500q, not %.500q", fmt.Sprint(two), fmt.Sprint(l))
		}
		wantDecoded(t, valueOf(l), l)
	}
}

func TestDigest(t *testing.T) {
	for s, want := range map[string]string{
		"":     "e3b0c44298fc1c149afbf4c8996fb92427ae41e4649b934ca495991b7852b855",
		"\x00": "6e340b9cffb37a989ca544e6bb780a2c78901d3fb33738768511a30617afa01d",
	} {
		if h := batch.Digest(s); hex.EncodeToString(h[:]) != want {
			t.Errorf("Digest(%q) = %x, not %s", s, h, want)
		}
	}
	for _, l := range batches() {
		s, _ := encode(t, l)
		// A text that is no value has its hash, too.
		for _, text := range []string{s, s + "\x00", s[1:], long(len(s))} {
			if h := batch.Digest(text); h != sha256.Sum256([]byte(text)) {
				t.Errorf("Digest(%.500q) = %x", text, h)
			}
		}
	}
}
