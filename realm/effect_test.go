package realm_test

import (
	"fmt"
	"math"
	"slices"
	"testing"

	"consistory/api"
	"consistory/lease"
	"consistory/order"
	"consistory/realm"
	"consistory/shelf"
	"consistory/watch"
)

const (
	created = 1
	set     = 2
	deleted = 3
)

// asker is the client of most requests here; mixed has neither a reply to it nor a watch of it.
const asker = 7

func event(kind int, p string, w watch.Watch) watch.Event {
	return watch.Event{W: w, C: watch.Change{Kind: kind, Path: p}}
}

// by is o as the request of the asker.
func by(o order.Order) order.Order {
	o.Client, o.Seq = asker, 5
	return o
}

// wantEffect checks a request that takes effect: x is the reply without Client and Seq, and left the realm without it.
func wantEffect(t *testing.T, given realm.Realm, o order.Order, x order.Reply, left realm.Realm, events ...watch.Event) realm.Realm {
	t.Helper()
	what := fmt.Sprintf("%q", fmt.Sprint(o))
	x.Client, x.Seq = o.Client, o.Seq
	r, got, told := apply(t, given, o)
	wantReply(t, what, got, x)
	wantRealm(t, what, r, withReplies(left, x))
	wantEvents(t, what, told, events)
	wantRight(t, r, realm.Right(given))
	return r
}

// wantFault checks a request with an error: only the last reply changes.
func wantFault(t *testing.T, given realm.Realm, o order.Order, e api.Errno) {
	t.Helper()
	wantEffect(t, given, o, order.Reply{E: e}, given)
}

// wantNoEffect checks a request that takes no effect: x is the whole reply.
func wantNoEffect(t *testing.T, given realm.Realm, o order.Order, x order.Reply) {
	t.Helper()
	what := fmt.Sprintf("%.300q", fmt.Sprint(o))
	r, got, told := apply(t, given, o)
	wantReply(t, what, got, x)
	wantRealm(t, what, r, given)
	wantEvents(t, what, told, nil)
}

func TestNothing(t *testing.T) {
	for _, r := range []realm.Realm{realm.New(), mixed()} {
		wantEffect(t, r, by(order.Order{Kind: 0}), order.Reply{}, r)
	}
}

func TestCreate(t *testing.T) {
	m := mixed()
	create := func(p, value string, session int) order.Order {
		return by(order.Order{Kind: 1, Path: p, Value: value, Session: session})
	}
	child := kids("/", 3)
	wantEffect(t, m, create("/new", "v", 0), order.Reply{}, withoutWatches(withNodes(m, shelf.Node{Path: "/new", Value: "v"}), child, data("/new", 8)),
		event(created, "/new", child), event(created, "/new", data("/new", 8)))
	wantEffect(t, m, create("/a/d", "", 0), order.Reply{}, withoutWatches(withNodes(m, at("/a/d")), kids("/a", 3), kids("/a", 1)),
		event(created, "/a/d", kids("/a", 3)), event(created, "/a/d", kids("/a", 1)))
	wantEffect(t, m, create("/a/c/x", long(1000), 0), order.Reply{}, withNodes(m, shelf.Node{Path: "/a/c/x", Value: long(1000)}))
	for _, id := range []int{4, 6, 9} {
		wantEffect(t, m, create("/a/c/y", "v", id), order.Reply{}, withNodes(m, shelf.Node{Path: "/a/c/y", Value: "v", Owner: id}))
	}
	r := wide(maxNodes - 1)
	wantEffect(t, r, create("/last", "", 0), order.Reply{}, withNodes(r, at("/last")))
}

func TestCreateErrors(t *testing.T) {
	m := mixed()
	for _, c := range []struct {
		p       string
		session int
		e       api.Errno
	}{
		{"/new", -1, api.ErrLease}, {"/new", -4, api.ErrLease}, {"/new", 5, api.ErrLease}, {"/new", 77, api.ErrLease}, {"/new", 1, api.ErrLease},
		{"/new", math.MinInt, api.ErrLease}, {"/new", math.MaxInt, api.ErrLease},
		{"new", 0, api.ErrName}, {"", 4, api.ErrName}, {"/new/", 0, api.ErrName}, {"/A", 0, api.ErrName}, {"/" + long(31), 4, api.ErrName},
		{"/", 0, api.ErrExists}, {"/a", 0, api.ErrExists}, {"/a/b", 4, api.ErrExists}, {"/f", 0, api.ErrExists},
		{"/new/a", 0, api.ErrNone}, {"/b/c/d", 4, api.ErrNone},
		{"/a/b/x", 0, api.ErrKids}, {"/d/x", 9, api.ErrKids}, {"/f/x", 0, api.ErrKids},
		// Of several errors, that of the session is the first one.
		{"", -1, api.ErrLease}, {"/a", 5, api.ErrLease}, {"/new/a", 5, api.ErrLease}, {"/d/x", 77, api.ErrLease},
	} {
		wantFault(t, m, by(order.Order{Kind: 1, Path: c.p, Value: "v", Session: c.session}), c.e)
	}
	wantFault(t, wide(maxNodes), by(order.Order{Kind: 1, Path: "/new"}), api.ErrFull)
	wantFault(t, wide(maxNodes), by(order.Order{Kind: 1, Path: "/new", Session: 1}), api.ErrLease)
	wantFault(t, fullOfAll(), order.Order{Client: 0, Seq: 11, Kind: 1, Path: "/new", Session: 1}, api.ErrFull)
}

func TestGet(t *testing.T) {
	m := mixed()
	for p, x := range map[string]order.Reply{
		"/": {}, "/a": {Value: "one", Version: 2}, "/a/b": {Value: "two"}, "/a/c": {Version: 7}, "/d": {}, "/e": {Value: "three", Version: 1}, "/f": {}, "/g": {Version: maxVersion},
		"": {E: api.ErrName}, "a": {E: api.ErrName}, "/a/": {E: api.ErrName}, "//": {E: api.ErrName}, long(100): {E: api.ErrName},
		"/b": {E: api.ErrNone}, "/a/b/c": {E: api.ErrNone}, "/new": {E: api.ErrNone},
	} {
		wantEffect(t, m, by(order.Order{Kind: 2, Path: p}), x, m)
	}
}

func TestSet(t *testing.T) {
	m := mixed()
	one := shelf.Node{Path: "/a", Value: "v", Version: 3}
	for _, version := range []int{-1, 2} {
		wantEffect(t, m, by(order.Order{Kind: 3, Path: "/a", Value: "v", Version: version}), order.Reply{Version: 3}, withoutWatches(withNodes(m, one), data("/a", 1), data("/a", 0)),
			event(set, "/a", data("/a", 1)), event(set, "/a", data("/a", 0)))
	}
	for _, version := range []int{-1, 0} {
		wantEffect(t, m, by(order.Order{Kind: 3, Path: "/a/b", Value: "", Version: version}), order.Reply{Version: 1},
			withoutWatches(withNodes(m, shelf.Node{Path: "/a/b", Version: 1, Owner: 4}), data("/a/b", 3)), event(set, "/a/b", data("/a/b", 3)))
	}
	// Only a change of the children is what a watch with Kids waits for.
	wantEffect(t, m, by(order.Order{Kind: 3, Path: "/a/c", Value: "v", Version: 7}), order.Reply{Version: 8}, withNodes(m, shelf.Node{Path: "/a/c", Value: "v", Version: 8}))
	wantEffect(t, m, by(order.Order{Kind: 3, Path: "/", Value: "root", Version: 0}), order.Reply{Version: 1}, withNodes(m, shelf.Node{Path: "/", Value: "root", Version: 1}))
	last := withNodes(m, shelf.Node{Path: "/g", Version: maxVersion - 1})
	wantEffect(t, last, by(order.Order{Kind: 3, Path: "/g", Version: -1}), order.Reply{Version: maxVersion}, withNodes(m, shelf.Node{Path: "/g", Version: maxVersion}))
}

func TestSetErrors(t *testing.T) {
	m := mixed()
	for _, c := range []struct {
		p       string
		version int
		e       api.Errno
	}{
		{"", -1, api.ErrName}, {"a", 0, api.ErrName}, {"/a/", 2, api.ErrName}, {"/b", -1, api.ErrNone}, {"/b", 0, api.ErrNone},
		{"/a", 1, api.ErrVersion}, {"/a", 3, api.ErrVersion}, {"/a", 0, api.ErrVersion}, {"/a", -2, api.ErrVersion}, {"/a/b", 1, api.ErrVersion}, {"/a", math.MaxInt, api.ErrVersion}, {"/a", math.MinInt, api.ErrVersion},
		{"/g", -1, api.ErrFull}, {"/g", maxVersion, api.ErrFull}, {"/g", maxVersion + 1, api.ErrVersion},
	} {
		wantFault(t, m, by(order.Order{Kind: 3, Path: c.p, Value: "v", Version: c.version}), c.e)
	}
}

func TestDelete(t *testing.T) {
	m := mixed()
	child := kids("/", 3)
	for _, version := range []int{-1, 7} {
		wantEffect(t, m, by(order.Order{Kind: 4, Path: "/a/c", Version: version}), order.Reply{}, withoutWatches(withoutNodes(m, "/a/c"), kids("/a", 3), kids("/a", 1)),
			event(deleted, "/a/c", kids("/a", 3)), event(deleted, "/a/c", kids("/a", 1)))
	}
	wantEffect(t, m, by(order.Order{Kind: 4, Path: "/e", Version: 1}), order.Reply{}, withoutWatches(withoutNodes(m, "/e"), child, data("/e", 5)),
		event(deleted, "/e", child), event(deleted, "/e", data("/e", 5)))
	wantEffect(t, m, by(order.Order{Kind: 4, Path: "/a/b", Version: 0}), order.Reply{}, withoutWatches(withoutNodes(m, "/a/b"), kids("/a", 3), data("/a/b", 3), kids("/a", 1)),
		event(deleted, "/a/b", kids("/a", 3)), event(deleted, "/a/b", data("/a/b", 3)), event(deleted, "/a/b", kids("/a", 1)))
	for _, c := range []struct {
		p       string
		version int
		e       api.Errno
	}{
		{"", -1, api.ErrName}, {"a", 0, api.ErrName}, {"/", -1, api.ErrName}, {"/", 0, api.ErrName}, {"/", 8, api.ErrName}, {"/b", -1, api.ErrNone},
		{"/a/c", 6, api.ErrVersion}, {"/a/c", 8, api.ErrVersion}, {"/a/c", 0, api.ErrVersion}, {"/a/c", -2, api.ErrVersion}, {"/a", 1, api.ErrVersion},
		{"/a", 2, api.ErrKids}, {"/a", -1, api.ErrKids},
	} {
		wantFault(t, m, by(order.Order{Kind: 4, Path: c.p, Version: c.version}), c.e)
	}
}

func TestList(t *testing.T) {
	m := mixed()
	for p, x := range map[string]order.Reply{
		"/": {Names: []string{"a", "d", "e", "f", "g"}}, "/a": {Names: []string{"b", "c"}}, "/a/b": {}, "/g": {},
		"": {E: api.ErrName}, "a": {E: api.ErrName}, "/b": {E: api.ErrNone}, "/a/b/c": {E: api.ErrNone},
	} {
		wantEffect(t, m, by(order.Order{Kind: 5, Path: p}), x, m)
	}
	r := wide(maxNodes)
	var names []string
	for _, n := range r.Shelf.L[1:] {
		names = append(names, n.Path[1:])
	}
	wantEffect(t, r, by(order.Order{Kind: 5, Path: "/"}), order.Reply{Names: names}, r)
}

func TestOpen(t *testing.T) {
	m := mixed()
	for _, c := range []lease.Session{{Id: 1, Span: 1}, {Id: 5, Span: 1000}, {Id: 77, Span: 20}, {Id: math.MaxInt, Span: 3}} {
		s := lease.Session{Id: c.Id, Span: c.Span, Until: 10 + c.Span}
		wantEffect(t, m, by(order.Order{Kind: 6, Session: c.Id, Span: c.Span}), order.Reply{}, withSessions(m, s))
	}
	for _, c := range []struct {
		id, span int
		e        api.Errno
	}{
		{0, 1, api.ErrArg}, {-1, 1, api.ErrArg}, {math.MinInt, 1, api.ErrArg}, {1, 0, api.ErrArg}, {1, -1, api.ErrArg}, {1, 1001, api.ErrArg}, {4, 1001, api.ErrArg},
		{4, 5, api.ErrExists}, {9, 1000, api.ErrExists},
	} {
		wantFault(t, m, by(order.Order{Kind: 6, Session: c.id, Span: c.span}), c.e)
	}
	f := fullOfAll()
	wantFault(t, f, order.Order{Client: 4, Seq: 100, Kind: 6, Session: 1000, Span: 1}, api.ErrFull)
	wantFault(t, f, order.Order{Client: 4, Seq: 100, Kind: 6, Session: 50, Span: 1}, api.ErrExists)
	f = withoutSessions(f, 17)
	wantEffect(t, f, order.Order{Client: 4, Seq: 100, Kind: 6, Session: 1000, Span: 1}, order.Reply{}, withSessions(f, lease.Session{Id: 1000, Span: 1, Until: 1}))
}

func TestTouch(t *testing.T) {
	m := mixed()
	wantEffect(t, m, by(order.Order{Kind: 7, Session: 4}), order.Reply{}, withSessions(m, lease.Session{Id: 4, Span: 5, Until: 15}))
	wantEffect(t, m, by(order.Order{Kind: 7, Session: 6}), order.Reply{}, m)
	wantEffect(t, m, by(order.Order{Kind: 7, Session: 9}), order.Reply{}, withSessions(m, lease.Session{Id: 9, Span: 7, Until: 17}))
	for _, id := range []int{0, -1, -4, 5, 77, math.MinInt, math.MaxInt} {
		wantFault(t, m, by(order.Order{Kind: 7, Session: id}), api.ErrLease)
	}
}

func TestClose(t *testing.T) {
	m := mixed()
	child := kids("/", 3)
	// /a/b comes first; the watch on the children of / is notified of /e.
	left := withoutWatches(withoutNodes(withoutSessions(m, 4), "/a/b", "/e"), kids("/a", 3), data("/a/b", 3), kids("/a", 1), child, data("/e", 5))
	wantEffect(t, m, by(order.Order{Kind: 8, Session: 4}), order.Reply{}, left,
		event(deleted, "/a/b", kids("/a", 3)), event(deleted, "/a/b", data("/a/b", 3)), event(deleted, "/a/b", kids("/a", 1)), event(deleted, "/e", child), event(deleted, "/e", data("/e", 5)))
	wantEffect(t, m, by(order.Order{Kind: 8, Session: 6}), order.Reply{}, withoutSessions(m, 6))
	wantEffect(t, m, by(order.Order{Kind: 8, Session: 9}), order.Reply{}, withoutWatches(withoutNodes(withoutSessions(m, 9), "/d"), child, data("/d", 5)),
		event(deleted, "/d", child), event(deleted, "/d", data("/d", 5)))
	// Without such a session, nothing that it owns is removed.
	for _, id := range []int{0, -1, -4, 5, 77, math.MinInt, math.MaxInt} {
		wantFault(t, m, by(order.Order{Kind: 8, Session: id}), api.ErrLease)
	}
}

func TestTick(t *testing.T) {
	m := mixed()
	child := kids("/", 3)
	wantEffect(t, m, by(order.Order{Kind: 9, Span: 10}), order.Reply{Version: 10}, m)
	wantEffect(t, m, by(order.Order{Kind: 9, Span: 11}), order.Reply{Version: 11}, atTime(m, 11))
	// One session: 9.
	left := withoutWatches(withoutNodes(withoutSessions(m, 9), "/d"), child, data("/d", 5))
	for _, now := range []int{12, 13} {
		wantEffect(t, m, by(order.Order{Kind: 9, Span: now}), order.Reply{Version: now}, atTime(left, now), event(deleted, "/d", child), event(deleted, "/d", data("/d", 5)))
	}
	// Two sessions: the nodes of 4 are the first ones, although 9 expires before, and /d comes before /e.
	left = withoutWatches(withoutNodes(withoutSessions(m, 4, 9), "/a/b", "/d", "/e"), kids("/a", 3), data("/a/b", 3), kids("/a", 1), child, data("/d", 5), data("/e", 5))
	told := []watch.Event{
		event(deleted, "/a/b", kids("/a", 3)), event(deleted, "/a/b", data("/a/b", 3)), event(deleted, "/a/b", kids("/a", 1)),
		event(deleted, "/e", child), event(deleted, "/e", data("/e", 5)), event(deleted, "/d", data("/d", 5)),
	}
	for _, now := range []int{14, 15, 109} {
		wantEffect(t, m, by(order.Order{Kind: 9, Span: now}), order.Reply{Version: now}, atTime(left, now), told...)
	}
	// All three; 77 is no session, so that /f stays.
	left = withoutSessions(left, 6)
	for _, now := range []int{110, maxTime} {
		wantEffect(t, m, by(order.Order{Kind: 9, Span: now}), order.Reply{Version: now}, atTime(left, now), told...)
	}
	for _, now := range []int{9, 1, 0, -1, math.MinInt} {
		wantFault(t, m, by(order.Order{Kind: 9, Span: now}), api.ErrStale)
	}
	for _, now := range []int{maxTime + 1, math.MaxInt} {
		wantFault(t, m, by(order.Order{Kind: 9, Span: now}), api.ErrLarge)
	}
	wantEffect(t, realm.New(), by(order.Order{Kind: 9, Span: 0}), order.Reply{}, realm.New())
}

func TestWatch(t *testing.T) {
	m := mixed()
	for _, p := range []string{"/", "/a", "/a/b", "/not/there", "/new"} {
		wantEffect(t, m, by(order.Order{Kind: 10, Path: p}), order.Reply{}, withWatches(m, data(p, asker)))
		wantEffect(t, m, by(order.Order{Kind: 11, Path: p}), order.Reply{}, withWatches(m, kids(p, asker)))
	}
	for _, p := range []string{"", "a", "/a/", "//", "/A", long(100)} {
		wantFault(t, m, by(order.Order{Kind: 10, Path: p}), api.ErrName)
		wantFault(t, m, by(order.Order{Kind: 11, Path: p}), api.ErrName)
	}
	// A watch that is there is not added again; one with the other Kids is another one.
	wantEffect(t, m, order.Order{Client: 1, Seq: 5, Kind: 10, Path: "/a"}, order.Reply{}, m)
	wantEffect(t, m, order.Order{Client: 1, Seq: 5, Kind: 11, Path: "/a"}, order.Reply{}, m)
	wantEffect(t, m, order.Order{Client: 0, Seq: 5, Kind: 11, Path: "/a"}, order.Reply{}, withWatches(m, kids("/a", 0)))
	wantEffect(t, m, order.Order{Client: 1000, Seq: 5, Kind: 10, Path: "/a"}, order.Reply{}, withWatches(m, data("/a", 1000)))
	f := fullOfAll()
	for kind := 10; kind <= 11; kind++ {
		wantFault(t, f, order.Order{Client: 2, Seq: 100, Kind: kind, Path: "/wide2"}, api.ErrFull)
		wantFault(t, f, order.Order{Client: 2, Seq: 100, Kind: kind, Path: "wide2"}, api.ErrName)
		wantEffect(t, f, order.Order{Client: 2, Seq: 100, Kind: kind, Path: "/wide1"}, order.Reply{}, f)
	}
}

// A watch is not notified of what its own request follows, but of the next change, once.
func TestWatchOfWhatComesNext(t *testing.T) {
	r := wantEffect(t, realm.New(), order.Order{Client: 1, Seq: 1, Kind: 10, Path: "/a"}, order.Reply{}, withWatches(realm.New(), data("/a", 1)))
	r = wantEffect(t, r, order.Order{Client: 1, Seq: 2, Kind: 1, Path: "/a"}, order.Reply{}, withoutWatches(withNodes(r, at("/a")), data("/a", 1)), event(created, "/a", data("/a", 1)))
	wantEffect(t, r, order.Order{Client: 1, Seq: 3, Kind: 3, Path: "/a", Version: -1}, order.Reply{Version: 1}, withNodes(r, shelf.Node{Path: "/a", Version: 1}))
}

// Of all sessions that a tick removes, the nodes are removed session by session.
func TestTickOfManySessions(t *testing.T) {
	given := realm.New()
	var left realm.Realm
	var told []watch.Event
	for i := range maxSessions {
		given = withSessions(given, lease.Session{Id: i + 1, Span: 100, Until: 100 - i})
		for _, name := range []string{"x", "y"} {
			// The order of the paths is not that of the sessions.
			p := fmt.Sprintf("/%02d%s", i*7%maxSessions, name)
			given = withWatches(withNodes(given, owned(p, i+1)), data(p, i))
			told = append(told, event(deleted, p, data(p, i)))
		}
	}
	left = realm.New()
	left.Book.Now = 100
	wantEffect(t, given, by(order.Order{Kind: 9, Span: 100}), order.Reply{Version: 100}, left, told...)
	// Of the sessions 26 to 50, which expire at 75 to 51, half of the events.
	left = atTime(copied(given), 75)
	for i := maxSessions / 2; i < maxSessions; i++ {
		left = withoutSessions(left, i+1)
	}
	for _, e := range told[maxSessions:] {
		left = withoutWatches(withoutNodes(left, e.C.Path), e.W)
	}
	wantEffect(t, given, by(order.Order{Kind: 9, Span: 75}), order.Reply{Version: 75}, left, told[maxSessions:]...)
}

// invalidOrders are requests of a client that layer 12 does not permit.
func invalidOrders(client, seq int) []order.Order {
	l := []order.Order{
		{Kind: -1}, {Kind: 12}, {Kind: math.MinInt}, {Kind: math.MaxInt}, {Kind: 0, Path: "/a"}, {Kind: 0, Value: "v"}, {Kind: 0, Version: 1}, {Kind: 0, Session: 1}, {Kind: 0, Span: 1},
		{Kind: 1, Path: "/new", Version: 1}, {Kind: 1, Path: "/new", Span: 1}, {Kind: 1, Path: "/new", Value: long(1001)}, {Kind: 1, Path: "/" + long(100)}, {Kind: 2, Path: "/a", Value: "v"},
		{Kind: 3, Path: "/a", Value: long(1001), Version: -1}, {Kind: 3, Path: "/a", Version: -1, Session: 1}, {Kind: 4, Path: "/a/c", Version: -1, Value: "v"}, {Kind: 5, Path: "/a", Span: -1},
		{Kind: 6, Session: 1, Span: 1, Path: "/"}, {Kind: 7, Session: 4, Span: 1}, {Kind: 8, Session: 4, Version: -1}, {Kind: 9, Span: 20, Session: 1}, {Kind: 10, Path: "/a", Version: 1}, {Kind: 11, Path: "/a", Value: "v"},
	}
	for i := range l {
		l[i].Client, l[i].Seq = client, seq
	}
	return l
}

// A request that is not valid has ErrArg before all others, and nothing changes.
func TestRequestsThatAreNotValid(t *testing.T) {
	for _, given := range []realm.Realm{realm.New(), mixed(), seenBy(maxSeen), fullOfAll()} {
		// Clients with and without a last reply; Seqs below, at and above it.
		for _, client := range []int{0, 1, 2, 3, 51, 1000} {
			for _, seq := range []int{1, 2, 4, 9, 10, 12, 1000} {
				for _, o := range invalidOrders(client, seq) {
					wantNoEffect(t, given, o, order.Reply{Client: client, Seq: seq, E: api.ErrArg})
				}
			}
		}
		for _, client := range []int{-1, 1001, math.MinInt, math.MaxInt} {
			wantNoEffect(t, given, order.Order{Client: client, Seq: 1}, order.Reply{Client: client, Seq: 1, E: api.ErrArg})
		}
		for _, seq := range []int{0, -1, maxSeq + 1, math.MinInt, math.MaxInt} {
			for _, client := range []int{0, 1, 3, 1000} {
				wantNoEffect(t, given, order.Order{Client: client, Seq: seq}, order.Reply{Client: client, Seq: seq, E: api.ErrArg})
			}
		}
		wantNoEffect(t, given, order.Order{}, order.Reply{E: api.ErrArg})
	}
}

// rightOrders are valid requests of each kind that would succeed in mixed, and some that would fail.
func rightOrders(client, seq int) []order.Order {
	l := []order.Order{
		{Kind: 0}, {Kind: 1, Path: "/new", Value: "v", Session: 4}, {Kind: 1, Path: "/a"}, {Kind: 2, Path: "/a"}, {Kind: 2, Path: "/b"}, {Kind: 3, Path: "/a", Version: 2}, {Kind: 3, Path: "/a", Version: 3},
		{Kind: 4, Path: "/a/c", Version: -1}, {Kind: 5, Path: "/"}, {Kind: 6, Session: 5, Span: 5}, {Kind: 7, Session: 4}, {Kind: 8, Session: 4}, {Kind: 8, Session: 5}, {Kind: 9, Span: 200}, {Kind: 9, Span: 1},
		{Kind: 10, Path: "/a"}, {Kind: 11, Path: "/x"},
	}
	for i := range l {
		l[i].Client, l[i].Seq = client, seq
	}
	return l
}

// A request with the Seq of the last reply has that reply, whatever else it says; one with a lower Seq has ErrStale.
func TestRequestsThatAreNotNew(t *testing.T) {
	for _, given := range []realm.Realm{mixed(), seenBy(maxSeen), fullOfAll()} {
		for _, x := range given.Seen {
			for _, o := range rightOrders(x.Client, x.Seq) {
				wantNoEffect(t, given, o, x)
			}
			for _, seq := range []int{1, x.Seq - 1} {
				for _, o := range rightOrders(x.Client, seq) {
					if seq < x.Seq {
						wantNoEffect(t, given, o, order.Reply{Client: x.Client, Seq: seq, E: api.ErrStale})
					}
				}
			}
		}
	}
}

// A higher Seq makes a request new, be it the next one or not.
func TestRequestsThatAreNew(t *testing.T) {
	for _, given := range []realm.Realm{mixed(), seenBy(maxSeen), fullOfAll()} {
		for _, x := range given.Seen {
			for _, seq := range []int{x.Seq + 1, x.Seq + 2, maxSeq} {
				wantEffect(t, given, order.Order{Client: x.Client, Seq: seq}, order.Reply{}, given)
				wantEffect(t, given, order.Order{Client: x.Client, Seq: seq, Kind: 2, Path: "/"}, order.Reply{}, given)
				wantFault(t, given, order.Order{Client: x.Client, Seq: seq, Kind: 7, Session: 2000}, api.ErrLease)
			}
		}
	}
	given := mixed()
	for _, seq := range []int{1, 2, maxSeq} {
		wantEffect(t, given, order.Order{Client: asker, Seq: seq}, order.Reply{}, given)
	}
}

// The 50th client has room for its reply, the 51st has not; a request of its that is not valid has ErrArg all the same.
func TestEachNumberOfClients(t *testing.T) {
	for n := range maxSeen {
		given := seenBy(n)
		for _, client := range []int{1, 2*n + 1, 2 * n, 1000} {
			wantEffect(t, given, order.Order{Client: client, Seq: 3, Kind: 1, Path: "/a"}, order.Reply{}, withNodes(given, at("/a")))
			wantFault(t, given, order.Order{Client: client, Seq: 3, Kind: 2, Path: "/a"}, api.ErrNone)
		}
	}
	for _, given := range []realm.Realm{seenBy(maxSeen), fullOfAll()} {
		for _, client := range []int{1, 49, 99, 100, 1000} {
			for _, o := range rightOrders(client, 3) {
				wantNoEffect(t, given, o, order.Reply{Client: client, Seq: 3, E: api.ErrFull})
			}
			for _, o := range invalidOrders(client, 3) {
				wantNoEffect(t, given, o, order.Reply{Client: client, Seq: 3, E: api.ErrArg})
			}
		}
		// The clients that are there are answered as before.
		wantEffect(t, given, order.Order{Client: 98, Seq: 1000, Kind: 6, Session: 4000}, order.Reply{E: api.ErrArg}, given)
	}
}

// Whichever clients ask, in whatever order, their replies are in the order of the clients.
func TestSeenStaysInOrder(t *testing.T) {
	for _, step := range []int{1, 7, 41, 49} {
		r := realm.New()
		for i := range maxSeen {
			client := i * step % maxSeen * 20
			r = wantEffect(t, r, order.Order{Client: client, Seq: 1 + i, Kind: 9, Span: i}, order.Reply{Version: i}, atTime(r, i))
		}
		if !slices.IsSortedFunc(r.Seen, func(a, b order.Reply) int { return a.Client - b.Client }) || len(r.Seen) != maxSeen {
			t.Errorf("in steps of %d: %v", step, r.Seen)
		}
		// And again, with each client there.
		for i := range maxSeen {
			client := (i + 3) * step % maxSeen * 20
			r = wantEffect(t, r, order.Order{Client: client, Seq: 100, Kind: 5, Path: "/"}, order.Reply{}, r)
		}
		wantNoEffect(t, r, order.Order{Client: 1, Seq: 1}, order.Reply{Client: 1, Seq: 1, E: api.ErrFull})
	}
}

// wantFold checks that a fold has the effects of its requests, one by one, and those of its two pieces.
func wantFold(t *testing.T, given realm.Realm, l []order.Order) (realm.Realm, []order.Reply, []watch.Event) {
	t.Helper()
	what := fmt.Sprintf("Fold of %d requests", len(l))
	one := given
	var replies []order.Reply
	var events []watch.Event
	for _, o := range l {
		r, x, more := apply(t, one, o)
		one = r
		replies, events = append(replies, x), append(events, more...)
	}
	for _, cut := range []int{len(l), 0, len(l) / 2, len(l) / 3} {
		r, x, told := fold(t, given, l[:cut])
		r, y, more := fold(t, r, l[cut:])
		wantRealm(t, what, r, one)
		if !slices.EqualFunc(slices.Concat(x, y), replies, isSameReply) {
			t.Errorf("%s, in pieces of %d and %d: %.1000q, %.1000q, not %.1000q", what, cut, len(l)-cut, fmt.Sprint(x), fmt.Sprint(y), fmt.Sprint(replies))
		}
		wantEvents(t, what, slices.Concat(told, more), events)
	}
	return one, replies, events
}

func TestFold(t *testing.T) {
	for _, given := range realms() {
		wantFold(t, given, nil)
		wantFold(t, given, []order.Order{})
		for _, o := range slices.Concat(rightOrders(asker, 3), rightOrders(1, 4), rightOrders(3, 1), invalidOrders(2, 2)) {
			wantFold(t, given, []order.Order{o})
		}
		var l []order.Order
		for i, o := range slices.Concat(rightOrders(2, 1), rightOrders(0, 1), rightOrders(3, 1), invalidOrders(1, 1), rightOrders(1000, 1)) {
			o.Seq += i
			// Each of them twice, and some a third time.
			l = append(l, o, o)
			if i%3 == 0 {
				l = append(l, l[i])
			}
		}
		wantFold(t, given, l)
	}
}

// Some requests whose replies and events are written out.
func TestFoldWrittenOut(t *testing.T) {
	l := []order.Order{
		{Client: 1, Seq: 1, Kind: 6, Session: 4, Span: 5},
		{Client: 2, Seq: 1, Kind: 11, Path: "/"},
		{Client: 1, Seq: 2, Kind: 1, Path: "/b", Value: "x", Session: 4},
		{Client: 2, Seq: 2, Kind: 11, Path: "/"},
		{Client: 1, Seq: 2, Kind: 1, Path: "/b", Value: "x", Session: 4},
		{Client: 2, Seq: 3, Kind: 5, Path: "/"},
		{Client: 1, Seq: 9, Kind: 8, Session: 4},
		{Client: 2, Seq: 1, Kind: 11, Path: "/"},
		{Client: 2, Seq: 3, Kind: 0},
		{Client: 2, Seq: 4, Kind: 5, Path: "/"},
		{Client: -1, Seq: 4, Kind: 5, Path: "/"},
	}
	r, replies, events := wantFold(t, realm.New(), l)
	want := []order.Reply{
		{Client: 1, Seq: 1}, {Client: 2, Seq: 1}, {Client: 1, Seq: 2}, {Client: 2, Seq: 2}, {Client: 1, Seq: 2}, {Client: 2, Seq: 3, Names: []string{"b"}}, {Client: 1, Seq: 9},
		{Client: 2, Seq: 1, E: api.ErrStale}, {Client: 2, Seq: 3, Names: []string{"b"}}, {Client: 2, Seq: 4}, {Client: -1, Seq: 4, E: api.ErrArg},
	}
	if !slices.EqualFunc(replies, want, isSameReply) {
		t.Errorf("%v, not %v", replies, want)
	}
	wantEvents(t, "written out", events, []watch.Event{event(created, "/b", kids("/", 2)), event(deleted, "/b", kids("/", 2))})
	wantRealm(t, "written out", r, withReplies(realm.New(), order.Reply{Client: 1, Seq: 9}, order.Reply{Client: 2, Seq: 4}))
}

// Two realms that grow out of one do not overwrite each other.
func TestRealmsThatGrowOutOfOne(t *testing.T) {
	base, _, _ := realm.Apply(mixed(), by(order.Order{Kind: 5, Path: "/"}))
	kept := copied(base)
	one, _, _ := realm.Apply(base, order.Order{Client: 8, Seq: 1, Kind: 1, Path: "/one"})
	two, _, _ := realm.Apply(base, order.Order{Client: 9, Seq: 1, Kind: 1, Path: "/two"})
	wantRealm(t, "the first one", one, withoutWatches(withReplies(withNodes(kept, at("/one")), order.Reply{Client: 8, Seq: 1}), kids("/", 3)))
	wantRealm(t, "the second one", two, withoutWatches(withReplies(withNodes(kept, at("/two")), order.Reply{Client: 9, Seq: 1}), kids("/", 3)))
	wantRealm(t, "what both grow out of", base, kept)
}

// With realms that are not valid, too, all calls end, and leave what they are given; the reply is still one to the request.
func TestOfRealmsThatAreNotValid(t *testing.T) {
	for _, given := range strange() {
		for _, o := range slices.Concat(rightOrders(1, 2), rightOrders(6, 2), invalidOrders(7, 1)) {
			_, x, _ := apply(t, given, o)
			if x.Client != o.Client || x.Seq != o.Seq {
				t.Errorf("%.300q has the reply %.300q", fmt.Sprint(o), fmt.Sprint(x))
			}
		}
		fold(t, given, rightOrders(1, 2))
		realm.Last(given, 1)
	}
}
