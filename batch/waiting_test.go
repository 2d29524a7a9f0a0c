package batch_test

import (
	"fmt"
	"maps"
	"slices"
	"testing"

	"consistory/api"
	"consistory/batch"
	"consistory/lease"
	"consistory/order"
	"consistory/realm"
	"consistory/shelf"
	"consistory/watch"
)

const maxSeen = 50

// mixed is a realm with some of each part. The clients 1, 3 and 1000 were answered.
func mixed() realm.Realm {
	return realm.Realm{
		Shelf: shelf.Shelf{L: []shelf.Node{{Path: "/"}, {Path: "/a", Value: "one", Version: 2}, {Path: "/a/b", Value: "two", Owner: 4}, {Path: "/c"}}},
		Book:  lease.Book{Now: 10, L: []lease.Session{{Id: 4, Span: 5, Until: 14}}},
		Table: watch.Table{L: []watch.Watch{{Path: "/", Client: 3, Kids: true}, {Path: "/a", Client: 1}}},
		Seen:  []order.Reply{{Client: 1, Seq: 3, Value: "one", Version: 1}, {Client: 3, Seq: 9, Names: []string{"a", "c"}}, {Client: 1000, Seq: 2, E: api.ErrNone}},
	}
}

// seenBy is mixed with the replies to so many clients: 0, 2, 4 and so on, with the Seq 5.
func seenBy(n int) realm.Realm {
	r := mixed()
	r.Seen = nil
	for i := range n {
		r.Seen = append(r.Seen, order.Reply{Client: 2 * i, Seq: 5, Names: []string{"a"}})
	}
	return r
}

func realms() []realm.Realm {
	return []realm.Realm{realm.New(), mixed(), seenBy(maxSeen - 1), seenBy(maxSeen)}
}

func copiedReplies(l []order.Reply) []order.Reply {
	l = slices.Clone(l)
	for i, x := range l {
		l[i].Names = slices.Clone(x.Names)
	}
	return l
}

// copied is r with memory of its own.
func copied(r realm.Realm) realm.Realm {
	r.Shelf.L, r.Book.L, r.Table.L, r.Seen = slices.Clone(r.Shelf.L), slices.Clone(r.Book.L), slices.Clone(r.Table.L), copiedReplies(r.Seen)
	return r
}

// room is a copy of l with spare capacity.
func room[T any](l []T) []T { return append(make([]T, 0, len(l)+3), l...) }

// roomy is a copy of r whose lists all have spare capacity, which is empty.
func roomy(r realm.Realm) realm.Realm {
	r.Shelf.L, r.Book.L, r.Table.L, r.Seen = room(r.Shelf.L), room(r.Book.L), room(r.Table.L), room(r.Seen)
	for i, x := range r.Seen {
		r.Seen[i].Names = room(x.Names)
	}
	return r
}

func isSameReply(a, b order.Reply) bool {
	return a.Client == b.Client && a.Seq == b.Seq && a.E == b.E && a.Value == b.Value && a.Version == b.Version && slices.Equal(a.Names, b.Names)
}

func isSameReplies(a, b []order.Reply) bool { return slices.EqualFunc(a, b, isSameReply) }

func isSame(a, b realm.Realm) bool {
	return slices.Equal(a.Shelf.L, b.Shelf.L) && a.Book.Now == b.Book.Now && slices.Equal(a.Book.L, b.Book.L) && slices.Equal(a.Table.L, b.Table.L) && isSameReplies(a.Seen, b.Seen)
}

// isEmptyBehind tells whether nothing was written behind the end of l.
func isEmptyBehind[T any](l []T, isEmpty func(v T) bool) bool {
	return !slices.ContainsFunc(l[len(l):cap(l)], func(v T) bool { return !isEmpty(v) })
}

func isZero[T comparable](v T) bool {
	var zero T
	return v == zero
}

// wantKept checks that nothing was written to what roomy made of r.
func wantKept(t *testing.T, r, c realm.Realm) {
	t.Helper()
	kept := isSame(c, r) && isEmptyBehind(c.Shelf.L, isZero) && isEmptyBehind(c.Book.L, isZero) && isEmptyBehind(c.Table.L, isZero) &&
		isEmptyBehind(c.Seen, func(x order.Reply) bool { return isSameReply(x, order.Reply{}) })
	for _, x := range c.Seen {
		kept = kept && isEmptyBehind(x.Names, isZero)
	}
	if !kept {
		t.Errorf("the realm that was given is changed: %.1000q, not %.1000q", fmt.Sprint(c), fmt.Sprint(r))
	}
}

// overwrite writes v wherever l has memory.
func overwrite[T any](l []T, v T) {
	l = l[:cap(l)]
	for i := range l {
		l[i] = v
	}
}

func overwriteReplies(l []order.Reply) {
	for _, x := range l {
		overwrite(x.Names, "mark")
	}
	overwrite(l, order.Reply{Client: -7})
}

func overwriteRealm(r realm.Realm) {
	overwrite(r.Shelf.L, shelf.Node{Path: "mark"})
	overwrite(r.Book.L, lease.Session{Id: -7})
	overwrite(r.Table.L, watch.Watch{Path: "mark"})
	overwriteReplies(r.Seen)
}

// waiting is Waiting, which must leave what it is given, and return memory of its own.
func waiting(t *testing.T, given realm.Realm, l []order.Order) []order.Order {
	t.Helper()
	r, c := roomy(given), padded(l)
	got := batch.Waiting(r, c)
	own := slices.Clone(got)
	overwrite(got, marked)
	wantKept(t, given, r)
	wantKeptOrders(t, l, c)
	return own
}

func wantWaiting(t *testing.T, given realm.Realm, l, want []order.Order) {
	t.Helper()
	if got := waiting(t, given, l); !slices.Equal(got, want) {
		t.Errorf("Waiting(%.1000q, %.1000q) = %.1000q, not %.1000q", fmt.Sprint(given.Seen), fmt.Sprint(l), fmt.Sprint(got), fmt.Sprint(want))
	}
}

// isNew is the definition of a new request in the chapter of package realm.
func isNew(r realm.Realm, o order.Order) bool {
	for _, x := range r.Seen {
		if x.Client == o.Client && x.Seq >= o.Seq {
			return false
		}
	}
	return true
}

// pending are the pending requests as the chapter's words describe them: the first of each client, then in their order.
func pending(r realm.Realm, l []order.Order) []order.Order {
	first := map[int]int{}
	for i, o := range slices.Backward(l) {
		if isValid(o) && isNew(r, o) {
			first[o.Client] = i
		}
	}
	var p []order.Order
	for _, i := range slices.Sorted(maps.Values(first)) {
		p = append(p, l[i])
	}
	return p[:min(len(p), maxOrders)]
}

func get(client, seq int) order.Order {
	return order.Order{Client: client, Seq: seq, Kind: 2, Path: "/a"}
}

func gets(seq int, clients ...int) []order.Order {
	var l []order.Order
	for _, client := range clients {
		l = append(l, get(client, seq))
	}
	return l
}

func TestWaitingOfNone(t *testing.T) {
	for _, r := range realms() {
		wantWaiting(t, r, nil, nil)
		wantWaiting(t, r, []order.Order{}, nil)
	}
}

// Requests that are not valid never wait, and do not keep others from waiting.
func TestWaitingOfWhatIsNotValid(t *testing.T) {
	bad := invalidOrders()
	for _, r := range realms() {
		wantWaiting(t, r, bad, nil)
		wantWaiting(t, r, make([]order.Order, 20), nil)
		for _, o := range bad {
			wantWaiting(t, r, []order.Order{o}, nil)
			// A valid one of the same client, and one of another client, around it.
			same, other := get(min(max(o.Client, 0), maxClient), 6), get(7, 6)
			wantWaiting(t, r, []order.Order{o, same, other, o}, []order.Order{same, other})
			wantWaiting(t, r, []order.Order{other, o, same}, []order.Order{other, same})
		}
	}
}

// Whatever a request says: it waits just if its Seq is above that of the last reply to its client.
func TestWaitingOfAnsweredOnes(t *testing.T) {
	orders, _ := writtenOut()
	for _, given := range realms() {
		for _, x := range given.Seen {
			for _, o := range orders {
				o.Client = x.Client
				for _, seq := range []int{1, x.Seq - 1, x.Seq} {
					if o.Seq = seq; seq > 0 {
						wantWaiting(t, given, []order.Order{o}, nil)
						wantWaiting(t, given, []order.Order{o, o}, nil)
					}
				}
				for _, seq := range []int{x.Seq + 1, x.Seq + 2, maxSeq} {
					o.Seq = seq
					wantWaiting(t, given, []order.Order{o}, []order.Order{o})
					wantWaiting(t, given, []order.Order{o, o}, []order.Order{o})
				}
			}
		}
	}
}

// A client without a reply may begin with any Seq; there need not be room for its reply.
func TestWaitingOfUnknownClients(t *testing.T) {
	orders, _ := writtenOut()
	for _, given := range realms() {
		for _, client := range []int{5, 7, 99, 101, 999} {
			for _, o := range orders {
				o.Client = client
				for _, o.Seq = range []int{1, 2, 5, maxSeq} {
					wantWaiting(t, given, []order.Order{o}, []order.Order{o})
				}
			}
		}
	}
	wantWaiting(t, seenBy(maxSeen), gets(6, 1, 0, 3, 2), gets(6, 1, 0, 3, 2))
	wantWaiting(t, seenBy(maxSeen), gets(5, 1, 0, 3, 2), gets(5, 1, 3))
}

// Of the requests of one client, the first one waits that is valid and new, whatever the Seqs of others are.
func TestWaitingOfOneClient(t *testing.T) {
	r := mixed() // The last reply to client 1 has the Seq 3.
	bad := order.Order{Client: 1, Seq: 5, Kind: 2, Path: "/a", Value: "x"}
	for _, c := range []struct{ l, want []order.Order }{
		{gets(4, 1), gets(4, 1)},
		{[]order.Order{get(1, 4), get(1, 5)}, gets(4, 1)},
		{[]order.Order{get(1, 5), get(1, 4)}, gets(5, 1)},
		{[]order.Order{get(1, 3), get(1, 4), get(1, 5)}, gets(4, 1)},
		{[]order.Order{get(1, 1), get(1, 2), get(1, 3), get(1, 7), get(1, 4)}, gets(7, 1)},
		{[]order.Order{bad, get(1, 4)}, gets(4, 1)},
		{[]order.Order{bad, get(1, 3), bad, get(1, 2), get(1, 9), bad, get(1, 4)}, gets(9, 1)},
		{[]order.Order{get(1, 3), bad, get(1, 1)}, nil},
		// Two that differ in something else than their Seq.
		{[]order.Order{{Client: 1, Seq: 4}, get(1, 4)}, []order.Order{{Client: 1, Seq: 4}}},
		{[]order.Order{get(1, 4), {Client: 1, Seq: 4}}, gets(4, 1)},
		// Others between them.
		{[]order.Order{get(1, 3), get(2, 1), bad, get(1, 8), get(2, 2), get(3, 9), get(1, 5), get(3, 10)}, []order.Order{get(2, 1), get(1, 8), get(3, 10)}},
		{[]order.Order{get(3, 10), get(2, 1), get(1, 4), get(2, 2), get(3, 11), get(1, 5)}, []order.Order{get(3, 10), get(2, 1), get(1, 4)}},
	} {
		wantWaiting(t, r, c.l, c.want)
	}
}

// At most 10 requests wait: the first ones, in the order in which they are given, which is not that of the clients.
func TestWaitingOfManyClients(t *testing.T) {
	var up, down []int
	for i := range 30 {
		up, down = append(up, 10+i), append(down, 500-i)
	}
	for _, given := range realms() {
		for n := range len(up) + 1 {
			wantWaiting(t, given, gets(7, up[:n]...), gets(7, up[:min(n, 10)]...))
			wantWaiting(t, given, gets(7, down[:n]...), gets(7, down[:min(n, 10)]...))
		}
		mixed := []int{20, 3, 999, 0, 41, 40, 1, 1000, 7, 5, 2, 998, 8}
		wantWaiting(t, given, gets(10, mixed...), gets(10, mixed[:10]...))
	}
	// Only those that wait are counted: none that is not valid or not new, and no second one of a client.
	given := mixed()
	all := slices.Concat(invalidOrders(), gets(2, 1, 3, 1000), gets(5, up[:9]...), gets(6, up[:9]...), make([]order.Order, 10), gets(2, 1000), gets(4, 1, 3, 2), gets(10, 3, 4))
	wantWaiting(t, given, all, append(gets(5, up[:9]...), get(1, 4)))
	wantWaiting(t, given, slices.Concat(gets(1, up[:10]...), gets(2, up...), gets(10, 3)), gets(1, up[:10]...))
}

// Every row of up to five of some requests.
func TestWaitingOfEveryShortRow(t *testing.T) {
	some := []order.Order{get(1, 3), get(1, 4), get(1, 9), {Client: 1, Seq: 5, Path: "/a"}, get(2, 1), {Client: 2, Seq: 2, Kind: 9, Span: 3}, {Client: 2}, get(0, 7)}
	given := mixed()
	var rows func(l []order.Order)
	rows = func(l []order.Order) {
		want := pending(given, l)
		if got := batch.Waiting(given, l); !slices.Equal(got, want) {
			t.Errorf("Waiting(%v) = %v, not %v", l, got, want)
		}
		if len(l) < 5 {
			for _, o := range some {
				rows(append(slices.Clip(l), o))
			}
		}
	}
	rows(nil)
}

// apply is Apply, which must leave what it is given, and return memory of its own.
func apply(t *testing.T, given realm.Realm, s string) (realm.Realm, []order.Reply, api.Errno) {
	t.Helper()
	c := roomy(given)
	r, x, e := batch.Apply(c, s)
	left, replies := copied(r), copiedReplies(x)
	overwriteRealm(r)
	if !isSameReplies(x, replies) {
		t.Errorf("the replies share memory with the realm that is left")
	}
	overwriteReplies(x)
	wantKept(t, given, c)
	return left, replies, e
}

func wantApplied(t *testing.T, given realm.Realm, s string, left realm.Realm, replies []order.Reply) {
	t.Helper()
	r, x, e := apply(t, given, s)
	if e != api.OK || !isSame(r, left) || !realm.Same(r, left) {
		t.Errorf("Apply of %.500q leaves %.1000q, error %d, not %.1000q", s, fmt.Sprint(r), e, fmt.Sprint(left))
	}
	if !isSameReplies(x, replies) {
		t.Errorf("Apply of %.500q replies %.1000q, not %.1000q", s, fmt.Sprint(x), fmt.Sprint(replies))
	}
}

// wantNotApplied checks a value that is none.
func wantNotApplied(t *testing.T, given realm.Realm, s string) {
	t.Helper()
	r, x, e := apply(t, given, s)
	if e != api.ErrForm || len(x) != 0 || !isSame(r, given) || !realm.Same(r, given) {
		t.Errorf("Apply of %.500q: error %d, %.500q, %.1000q", s, e, fmt.Sprint(x), fmt.Sprint(r))
	}
}

// One batch whose realm and replies are written out.
func TestApplyWrittenOut(t *testing.T) {
	l := []order.Order{
		{Client: 7, Seq: 1, Kind: 1, Path: "/d", Value: "v", Session: 4},
		{Client: 1, Seq: 4, Kind: 3, Path: "/a", Value: "new", Version: 2},
		{Client: 7, Seq: 1, Kind: 1, Path: "/d", Value: "v", Session: 4},
		{Client: 2, Seq: 1, Kind: 5, Path: "/"},
		{Client: 1, Seq: 3, Kind: 4, Path: "/a", Version: -1},
		{Client: 3, Seq: 9, Kind: 4, Path: "/a/b", Version: -1},
		{Client: 1, Seq: 3, Kind: 2, Path: "/"},
		{Client: 2, Seq: 7, Kind: 3, Path: "/a", Version: 2},
		{Client: 1000, Seq: 3, Kind: 2, Path: "/a"},
	}
	left := realm.Realm{
		Shelf: shelf.Shelf{L: []shelf.Node{{Path: "/"}, {Path: "/a", Value: "new", Version: 3}, {Path: "/a/b", Value: "two", Owner: 4}, {Path: "/c"}, {Path: "/d", Value: "v", Owner: 4}}},
		Book:  mixed().Book,
		Seen: []order.Reply{
			{Client: 1, Seq: 4, Version: 3}, {Client: 2, Seq: 7, E: api.ErrVersion}, {Client: 3, Seq: 9, Names: []string{"a", "c"}}, {Client: 7, Seq: 1}, {Client: 1000, Seq: 3, Value: "new", Version: 3},
		},
	}
	wantApplied(t, mixed(), valueOf(l), left, []order.Reply{
		{Client: 7, Seq: 1}, {Client: 1, Seq: 4, Version: 3}, {Client: 7, Seq: 1}, {Client: 2, Seq: 1, Names: []string{"a", "c", "d"}}, {Client: 1, Seq: 3, E: api.ErrStale},
		{Client: 3, Seq: 9, Names: []string{"a", "c"}}, {Client: 1, Seq: 3, E: api.ErrStale}, {Client: 2, Seq: 7, E: api.ErrVersion}, {Client: 1000, Seq: 3, Value: "new", Version: 3},
	})
}

// The realm and the replies are those of the fold of the requests.
func TestApply(t *testing.T) {
	for _, given := range realms() {
		for _, l := range batches() {
			left, replies, _ := realm.Fold(given, l)
			wantApplied(t, given, valueOf(l), left, replies)
		}
	}
}

func TestApplyOfNone(t *testing.T) {
	for _, given := range realms() {
		wantApplied(t, given, "\x00", given, nil)
	}
}

// Requests that were answered before change nothing: each client's last one has its reply again, others are stale.
func TestApplyOfAnsweredOnes(t *testing.T) {
	given := mixed()
	again := []order.Order{get(1, 3), {Client: 3, Seq: 9, Kind: 4, Path: "/c", Version: -1}, get(1000, 2)}
	wantApplied(t, given, valueOf(again), given, given.Seen)
	stale := []order.Order{get(1, 2), {Client: 3, Seq: 8, Kind: 4, Path: "/c", Version: -1}, get(1000, 1)}
	wantApplied(t, given, valueOf(stale), given, []order.Reply{{Client: 1, Seq: 2, E: api.ErrStale}, {Client: 3, Seq: 8, E: api.ErrStale}, {Client: 1000, Seq: 1, E: api.ErrStale}})
	// Of a client for whose reply there is no room, likewise.
	wantApplied(t, seenBy(maxSeen), valueOf(gets(1, 1)), seenBy(maxSeen), []order.Reply{{Client: 1, Seq: 1, E: api.ErrFull}})
}

// A value that is none has the error of Decode, and changes nothing.
func TestApplyOfWhatIsNone(t *testing.T) {
	orders, bytes := writtenOut()
	good := valueOf(orders[:4])
	for _, given := range realms() {
		for _, s := range []string{"", "odd", good + "\x00", "\x01\x00", "\x02\x00\x04" + joined(orders[:4]), "\x01\x0b" + joined(orders[:11]), "\x01\x05" + joined(orders[:4]), "\x01\x03" + joined(orders[:4]), bytes[0], long(2000)} {
			wantNotApplied(t, given, s)
		}
		for i := range good {
			wantNotApplied(t, given, good[:i])
		}
		// The requests ahead of one that is not valid have no effect, either.
		for _, o := range invalidOrders() {
			for place := range 4 {
				wantNotApplied(t, given, valueOf(with(orders[:4], place, o)))
			}
		}
	}
}
