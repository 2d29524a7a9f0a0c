package batch_test

import (
	"fmt"
	"math"
	"math/rand/v2"
	"slices"
	"testing"

	"consistory/api"
	"consistory/batch"
	"consistory/order"
	"consistory/realm"
)

// cut is a piece of a text, and what is behind it. It knows nothing of limits, nor of how few bytes a number has.
type cut struct {
	rest string
	bad  bool
}

func (c *cut) bytes(n uint64) string {
	if c.bad || n > uint64(len(c.rest)) {
		c.bad = true
		return ""
	}
	s := c.rest[:n]
	c.rest = c.rest[n:]
	return s
}

func (c *cut) number() uint64 {
	w := c.bytes(1)
	if c.bad || w[0] > 8 {
		c.bad = true
		return 0
	}
	var n uint64
	for _, b := range []byte(c.bytes(uint64(w[0]))) {
		n = n*256 + uint64(b)
	}
	return n
}

func (c *cut) signed() int {
	n := c.number()
	if n%2 == 1 {
		return -int(n/2) - 1
	}
	return int(n / 2)
}

// rowOf is the row whose value a text might be, at most: whether it is, valueOf and isValid tell.
func rowOf(s string) ([]order.Order, bool) {
	c := cut{rest: s}
	n := c.number()
	var l []order.Order
	for i := uint64(0); i < n && !c.bad; i++ {
		o := order.Order{Client: c.signed(), Seq: c.signed(), Kind: c.signed(), Version: c.signed(), Session: c.signed(), Span: c.signed()}
		o.Path, o.Value = c.bytes(c.number()), c.bytes(c.number())
		l = append(l, o)
	}
	return l, !c.bad
}

func isBatch(l []order.Order) bool {
	return len(l) <= maxOrders && !slices.ContainsFunc(l, func(o order.Order) bool { return !isValid(o) })
}

// wantTextChecked checks what is decoded from any text, and tells whether it is a value: a text that has a row is the value of that row.
func wantTextChecked(t *testing.T, s string) bool {
	t.Helper()
	row, ok := rowOf(s)
	l, e := batch.Decode(s)
	if !ok || !isBatch(row) || valueOf(row) != s {
		if e != api.ErrForm || len(l) != 0 {
			t.Errorf("Decode(%.500q) = %.500q, error %d", s, fmt.Sprint(l), e)
		}
		return false
	}
	if e != api.OK || !slices.Equal(l, row) {
		t.Errorf("Decode(%.500q) = %.500q, error %d, not %.500q", s, fmt.Sprint(l), e, fmt.Sprint(row))
	}
	if again, e := batch.Encode(l); e != api.OK || again != s {
		t.Errorf("%.500q is decoded, and then encoded as %.500q, error %d", s, again, e)
	}
	return true
}

// wantRowChecked checks what is encoded of any row, and tells whether it has a value: it is then the row of that value.
func wantRowChecked(t *testing.T, l []order.Order) bool {
	t.Helper()
	s, e := encode(t, l)
	if !isBatch(l) {
		want := api.ErrArg
		if len(l) > maxOrders {
			want = api.ErrLarge
		}
		if e != want || s != "" {
			t.Errorf("Encode(%.500q) = %.500q, error %d, not %d", fmt.Sprint(l), s, e, want)
		}
		// What would be its value is none.
		wantNotDecoded(t, valueOf(l))
		return false
	}
	if e != api.OK || s != valueOf(l) {
		t.Errorf("Encode(%.500q) = %.500q, error %d, not %.500q", fmt.Sprint(l), s, e, valueOf(l))
	}
	wantDecoded(t, s, l)
	return true
}

func pick[T any](r *rand.Rand, l ...T) T { return l[r.IntN(len(l))] }

// randomOrder is a request of one of some clients, which is valid if bad is 0, and not valid about once in bad times otherwise.
func randomOrder(r *rand.Rand, bad int) order.Order {
	o := order.Order{Client: r.IntN(16), Seq: 1 + r.IntN(6), Kind: r.IntN(len(used))}
	u := used[o.Kind]
	path, value := pick(r, "/", "/a", "/a/b", "/c", "/d", "odd", "", long(100)), pick(r, "", "x", "\x00", "\xff\xfe", "\x01\x02", long(300), long(1000))
	version, session, span := pick(r, -1, 0, 1, 2, math.MinInt), pick(r, 0, 1, 2, 3, 4, -1, math.MaxInt), pick(r, 1, 3, 20, 1000, 0, -5, 1<<40)
	if bad > 0 && r.IntN(bad) == 0 {
		u.value, u.version = true, true
		o.Seq = r.IntN(3)
	}
	if u.path {
		o.Path = path
	}
	if u.value {
		o.Value = value
	}
	if u.version {
		o.Version = version
	}
	if u.session {
		o.Session = session
	}
	if u.span {
		o.Span = span
	}
	return o
}

// randomRow is a row of up to most requests.
func randomRow(r *rand.Rand, most, bad int) []order.Order {
	var l []order.Order
	for range r.IntN(most + 1) {
		l = append(l, randomOrder(r, bad))
	}
	return l
}

// neighbors are rows that differ little from l.
func neighbors(l []order.Order) [][]order.Order {
	rows := [][]order.Order{append(slices.Clone(l), get(1, 1)), append([]order.Order{get(1, 1)}, l...)}
	for i, o := range l {
		rows = append(rows, slices.Delete(slices.Clone(l), i, i+1), slices.Insert(slices.Clone(l), i, o))
		for _, change := range []func(o *order.Order){
			func(o *order.Order) { o.Client++ }, func(o *order.Order) { o.Seq++ }, func(o *order.Order) { o.Kind++ }, func(o *order.Order) { o.Path += "x" }, func(o *order.Order) { o.Value += "x" },
			func(o *order.Order) { o.Version++ }, func(o *order.Order) { o.Session++ }, func(o *order.Order) { o.Span++ }, func(o *order.Order) { o.Path, o.Value = o.Value, o.Path },
			func(o *order.Order) { o.Version, o.Session, o.Span = o.Session, o.Span, o.Version }, func(o *order.Order) { o.Version = -o.Version - 1 },
		} {
			other := o
			change(&other)
			rows = append(rows, with(l, i, other))
		}
		if i > 0 {
			rows = append(rows, with(with(l, i, l[i-1]), i-1, o))
		}
	}
	return rows
}

// P14.2: a row that has a value is the row of its value, and two different rows have different values.
func TestManyRows(t *testing.T) {
	rowsOf := map[string][]order.Order{}
	valid, others := 0, 0
	check := func(l []order.Order) {
		if !wantRowChecked(t, l) {
			others++
			return
		}
		valid++
		s, _ := batch.Encode(l)
		if known, there := rowsOf[s]; there && !slices.Equal(known, l) {
			t.Errorf("%.500q and %.500q have the same value", fmt.Sprint(known), fmt.Sprint(l))
		}
		rowsOf[s] = l
	}
	r := rand.New(rand.NewPCG(14, 1))
	for range 3000 {
		check(randomRow(r, 10, 0))
		check(randomRow(r, 13, 20))
	}
	for range 150 {
		l := randomRow(r, 6, 0)
		for _, near := range neighbors(l) {
			check(near)
		}
	}
	for _, l := range batches() {
		check(l)
	}
	if valid < 3000 || others < 1000 || len(rowsOf) < 3000 {
		t.Errorf("only %d rows with a value, %d without, %d values", valid, others, len(rowsOf))
	}
}

// P14.2: each value with each of its bytes changed, left out, or twice.
func TestChangedBytes(t *testing.T) {
	orders, _ := writtenOut()
	values, others := 0, 0
	check := func(s string) {
		if wantTextChecked(t, s) {
			values++
		} else {
			others++
		}
	}
	for _, l := range [][]order.Order{nil, orders[:1], orders[1:2], orders[4:5], orders[6:7], orders[9:], orders[:3], orders[:10], orders[2:], slices.Repeat(orders[:1], 10)} {
		s := valueOf(l)
		check(s)
		for i := range s {
			for c := range 256 {
				check(s[:i] + string([]byte{byte(c)}) + s[i+1:])
			}
			check(s[:i] + s[i+1:])
			check(s[:i] + s[i:i+1] + s[i:])
		}
	}
	if values < 3000 || others < 3000 {
		t.Errorf("only %d values, and %d other texts", values, others)
	}
}

// changed is a text that is made of two texts.
func changed(r *rand.Rand, s, other string) string {
	i, k := r.IntN(len(s)+1), r.IntN(len(other)+1)
	switch r.IntN(6) {
	case 0:
		return s[:i] + other[k:]
	case 1:
		return s[:i] + s[min(len(s), i+1+r.IntN(12)):]
	case 2:
		return s[:i] + string([]byte{byte(r.IntN(4))}) + s[i:]
	case 3:
		return s[:i] + other[k:min(len(other), k+12)] + s[i:]
	case 4:
		// Two batches in one: mostly one with the right number of requests.
		return string([]byte{1, byte(r.IntN(12))}) + s[min(len(s), 2):] + other[min(len(other), 2):]
	default:
		return s[:i] + string([]byte{byte(r.IntN(256))}) + s[min(len(s), i+1):]
	}
}

// P14.2: many pseudorandom texts.
func TestManyTexts(t *testing.T) {
	r := rand.New(rand.NewPCG(14, 2))
	values, others := 0, 0
	check := func(s string) {
		if wantTextChecked(t, s) {
			values++
		} else {
			others++
		}
	}
	for range 20000 {
		// Small values, of which a change is often a value, too.
		s, other := valueOf(randomRow(r, 4, 20)), valueOf(randomRow(r, 4, 20))
		for range 1 + r.IntN(3) {
			s = changed(r, s, other)
			check(s)
		}
		b := make([]byte, r.IntN(40))
		for i := range b {
			b[i] = byte(r.IntN(pick(r, 3, 12, 256)))
		}
		check(string(b))
		check("\x01\x01" + string(b))
	}
	if values < 1000 || others < 1000 {
		t.Errorf("only %d values, and %d other texts", values, others)
	}
}

// P14.2: every text of few bytes over a small alphabet, alone and as the one request of a batch.
func TestEveryShortText(t *testing.T) {
	values := 0
	var texts func(s string, more int)
	texts = func(s string, more int) {
		if wantTextChecked(t, s) {
			values++
		}
		if more > 0 {
			for _, c := range []string{"\x00", "\x01", "\x02"} {
				texts(s+c, more-1)
			}
		}
	}
	texts("", 8)
	// The shortest request has 9 bytes.
	texts("\x01\x01", 11)
	if values < 10 {
		t.Errorf("only %d values", values)
	}
}

// randomRealm is what some requests lead to, with as many further clients as to leave so much room.
func randomRealm(r *rand.Rand, left int) realm.Realm {
	l := make([]order.Order, 0, 60)
	for range r.IntN(60) {
		l = append(l, randomOrder(r, 10))
	}
	given, _, _ := realm.Fold(realm.New(), l)
	for i := 100; len(given.Seen) < maxSeen-left; i++ {
		given.Seen = append(given.Seen, order.Reply{Client: i, Seq: 1 + r.IntN(5)})
	}
	return given
}

// answeredBy are the pending requests that take effect: those of clients that were answered, and of others while there is room.
func answeredBy(given realm.Realm, l []order.Order) []order.Order {
	var own []order.Order
	left := maxSeen - len(given.Seen)
	for _, o := range l {
		if _, found := realm.Last(given, o.Client); !found {
			if left == 0 {
				continue
			}
			left--
		}
		own = append(own, o)
	}
	return own
}

// wantPendingChecked checks the pending requests, and the effect of their batch; it tells how many there are, and for how many there was no room.
func wantPendingChecked(t *testing.T, given realm.Realm, l []order.Order) (all, without int) {
	t.Helper()
	p := waiting(t, given, l)
	if !slices.Equal(p, pending(given, l)) {
		t.Errorf("Waiting(%.500q, %.1000q) = %.500q", fmt.Sprint(given.Seen), fmt.Sprint(l), fmt.Sprint(p))
	}
	clients := map[int]bool{}
	for _, o := range p {
		if clients[o.Client] || !isValid(o) || !isNew(given, o) || !slices.Contains(l, o) {
			t.Errorf("%.300q is pending among %.500q", fmt.Sprint(o), fmt.Sprint(p))
		}
		clients[o.Client] = true
	}
	s, e := batch.Encode(p)
	if e != api.OK {
		t.Errorf("the pending requests %.500q have no value: error %d", fmt.Sprint(p), e)
	}
	own := answeredBy(given, p)
	after := wantOnce(t, given, s, p, own)
	// Those that took effect are not pending any more, in any row.
	for _, o := range slices.Concat(waiting(t, after, p), waiting(t, after, l)) {
		if slices.Contains(own, o) {
			t.Errorf("%.300q is pending again", fmt.Sprint(o))
		}
	}
	if len(own) == len(p) && len(waiting(t, after, p)) > 0 {
		t.Errorf("%.300q are pending again", fmt.Sprint(waiting(t, after, p)))
	}
	return len(p), len(p) - len(own)
}

// wantOnce checks that of the requests of a value those in own take effect, each once, and the others do not; and that nothing changes when it is applied again.
func wantOnce(t *testing.T, given realm.Realm, s string, l, own []order.Order) realm.Realm {
	t.Helper()
	after, replies, e := apply(t, given, s)
	if e != api.OK || len(replies) != len(l) {
		t.Fatalf("Apply of %.500q: error %d, %d replies", s, e, len(replies))
	}
	once := given
	for i, o := range l {
		want := order.Reply{Client: o.Client, Seq: o.Seq, E: api.ErrFull}
		if slices.Contains(own, o) {
			once, want, _ = realm.Apply(once, o)
			last, found := realm.Last(after, o.Client)
			if !found || !isSameReply(last, want) {
				t.Errorf("%.300q has the last reply %.300q, not %.300q", fmt.Sprint(o), fmt.Sprint(last), fmt.Sprint(want))
			}
		}
		if !isSameReply(replies[i], want) {
			t.Errorf("%.300q has the reply %.300q, not %.300q", fmt.Sprint(o), fmt.Sprint(replies[i]), fmt.Sprint(want))
		}
	}
	if !isSame(after, once) {
		t.Errorf("after %.500q: %.1000q, not %.1000q", fmt.Sprint(l), fmt.Sprint(after), fmt.Sprint(once))
	}
	wantApplied(t, after, s, after, replies)
	return after
}

// P14.2: for many realms and rows, the pending requests take effect, each once.
func TestManyPendingRequests(t *testing.T) {
	r := rand.New(rand.NewPCG(14, 3))
	full, empty, withoutRoom := 0, 0, 0
	for i := range 3000 {
		given := randomRealm(r, pick(r, 0, 1, 3, 5, 50))
		if !realm.Right(given) {
			t.Fatalf("in round %d, %.1000q is not valid", i, fmt.Sprint(given))
		}
		n, without := wantPendingChecked(t, given, randomRow(r, pick(r, 3, 10, 40, 80), pick(r, 0, 2, 10)))
		switch {
		case n == maxOrders:
			full++
		case n == 0:
			empty++
		}
		if without > 0 {
			withoutRoom++
		}
		if t.Failed() {
			t.Fatalf("in round %d", i)
		}
	}
	if full < 100 || empty < 50 || withoutRoom < 100 {
		t.Errorf("only %d full batches, %d empty ones, %d with a request for which there is no room", full, empty, withoutRoom)
	}
}

// P14.2: batch after batch, all requests of a row take effect that must, as long as there is room for all clients.
func TestBatchAfterBatch(t *testing.T) {
	r := rand.New(rand.NewPCG(14, 4))
	for range 200 {
		given := randomRealm(r, 50)
		l := randomRow(r, 80, 10)
		batches := 0
		for p := waiting(t, given, l); len(p) > 0; p = waiting(t, given, l) {
			s, _ := batch.Encode(p)
			given = wantOnce(t, given, s, p, p)
			// With each batch the Seq of a client's last reply rises, and there are only few.
			if batches++; batches > 20 {
				t.Fatalf("%.500q are still pending", fmt.Sprint(p))
			}
		}
		for _, o := range l {
			if isValid(o) && isNew(given, o) {
				t.Errorf("%.300q is not pending, but new", fmt.Sprint(o))
			}
		}
	}
}

func FuzzUnique(f *testing.F) {
	orders, _ := writtenOut()
	for _, l := range [][]order.Order{nil, orders[:1], orders[:2], orders[2:12]} {
		f.Add(valueOf(l))
	}
	f.Add("\x02\x00\x01" + encoded(orders[0]))
	f.Fuzz(func(t *testing.T, s string) {
		wantTextChecked(t, s)
		if l, ok := rowOf(s); ok {
			wantRowChecked(t, l)
		}
	})
}

// fuzzedOrders are the requests that bytes stand for: three bytes each.
func fuzzedOrders(b []byte) []order.Order {
	var l []order.Order
	for ; len(b) >= 3 && len(l) < 100; b = b[3:] {
		o := order.Order{Client: int(int8(b[0])), Seq: int(b[1]) % 8, Kind: int(b[2]) % 13}
		if b[2]%3 > 0 {
			o.Path = "/a"
		}
		if o.Kind == 9 {
			o.Span = int(b[2])
		}
		l = append(l, o)
	}
	return l
}

func FuzzPending(f *testing.F) {
	f.Add([]byte("\x01\x03\x02\x02\x01\x02"), []byte("\x01\x03\x02\x02\x02\x02\x03\x01\x00\x01\x04\x09"))
	f.Add([]byte("some requests of some clients"), []byte("and those that wait, of which some are not valid, and some not new"))
	f.Fuzz(func(t *testing.T, before, row []byte) {
		given, _, _ := realm.Fold(mixed(), fuzzedOrders(before))
		wantPendingChecked(t, given, fuzzedOrders(row))
	})
}
