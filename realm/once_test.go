package realm_test

import (
	"bytes"
	"cmp"
	"fmt"
	"maps"
	"math/rand/v2"
	"regexp"
	"slices"
	"strings"
	"testing"

	"consistory/api"
	"consistory/lease"
	"consistory/order"
	"consistory/realm"
	"consistory/shelf"
	"consistory/watch"
)

var pathForm = regexp.MustCompile(`^(/|(/[a-z0-9_-]{1,30}){1,8})$`)

func isPath(s string) bool { return len(s) <= 100 && pathForm.MatchString(s) }

// parentOf is the parent of a path other than the root.
func parentOf(p string) string { return cmp.Or(p[:strings.LastIndex(p, "/")], "/") }

// model is a realm as the chapters' words describe it, without the packages of its parts.
type model struct {
	nodes    map[string]shelf.Node
	now      int
	sessions map[int]lease.Session
	watches  []watch.Watch
	seen     map[int]order.Reply
}

func modelOf(r realm.Realm) *model {
	m := &model{nodes: map[string]shelf.Node{}, now: r.Book.Now, sessions: map[int]lease.Session{}, watches: slices.Clone(r.Table.L), seen: map[int]order.Reply{}}
	for _, n := range r.Shelf.L {
		m.nodes[n.Path] = n
	}
	for _, s := range r.Book.L {
		m.sessions[s.Id] = s
	}
	for _, x := range r.Seen {
		m.seen[x.Client] = x
	}
	return m
}

func (m *model) realm() realm.Realm {
	r := realm.Realm{Book: lease.Book{Now: m.now}, Table: watch.Table{L: slices.Clone(m.watches)}}
	r = withNodes(r, slices.Collect(maps.Values(m.nodes))...)
	r = withSessions(r, slices.Collect(maps.Values(m.sessions))...)
	return withReplies(r, slices.Collect(maps.Values(m.seen))...)
}

// apply is the chapter's M2.
func (m *model) apply(o order.Order) (order.Reply, []watch.Event) {
	x := order.Reply{Client: o.Client, Seq: o.Seq}
	last, known := m.seen[o.Client]
	switch {
	case !order.May(o):
		x.E = api.ErrArg
	case known && o.Seq == last.Seq:
		x = last
	case known && o.Seq < last.Seq:
		x.E = api.ErrStale
	case !known && len(m.seen) == maxSeen:
		x.E = api.ErrFull
	default:
		changes := m.effect(o, &x)
		m.seen[o.Client] = x
		return x, m.fire(changes)
	}
	return x, nil
}

// effect is the chapter's effect of a request by its Kind. It returns the changes.
func (m *model) effect(o order.Order, x *order.Reply) []watch.Change {
	switch o.Kind {
	case 1, 3, 4:
		x.E = m.errorOfChange(o)
		if x.E == api.OK {
			return m.change(o, x)
		}
	case 2, 5:
		x.E = m.errorOfGet(o.Path)
		if x.E == api.OK {
			m.read(o, x)
		}
	case 6, 7, 8, 9:
		x.E = m.errorOfSession(o)
		if x.E == api.OK {
			return m.session(o, x)
		}
	case 10, 11:
		w := watch.Watch{Path: o.Path, Client: o.Client, Kids: o.Kind == 11}
		switch {
		case !isPath(o.Path):
			x.E = api.ErrName
		case slices.Contains(m.watches, w):
		case len(m.watches) == maxWatches:
			x.E = api.ErrFull
		default:
			m.watches = append(m.watches, w)
		}
	}
	return nil
}

func (m *model) errorOfGet(p string) api.Errno {
	if !isPath(p) {
		return api.ErrName
	}
	if _, there := m.nodes[p]; !there {
		return api.ErrNone
	}
	return api.OK
}

func (m *model) kidsOf(p string) []string {
	var l []string
	for q := range m.nodes {
		if q != "/" && parentOf(q) == p {
			l = append(l, q)
		}
	}
	slices.Sort(l)
	return l
}

func (m *model) errorOfChange(o order.Order) api.Errno {
	e := m.errorOfGet(o.Path)
	n := m.nodes[o.Path]
	if o.Kind != 1 {
		switch {
		case e != api.OK:
			return e
		case o.Kind == 4 && o.Path == "/":
			return api.ErrName
		case o.Version != -1 && o.Version != n.Version:
			return api.ErrVersion
		case o.Kind == 4 && len(m.kidsOf(o.Path)) > 0:
			return api.ErrKids
		case o.Kind == 3 && n.Version == maxVersion:
			return api.ErrFull
		}
		return api.OK
	}
	if _, there := m.sessions[o.Session]; o.Session != 0 && !there {
		return api.ErrLease
	}
	switch e {
	case api.OK:
		return api.ErrExists
	case api.ErrName:
		return e
	}
	parent, there := m.nodes[parentOf(o.Path)]
	switch {
	case !there:
		return api.ErrNone
	case parent.Owner != 0:
		return api.ErrKids
	case len(m.nodes) == maxNodes:
		return api.ErrFull
	}
	return api.OK
}

func (m *model) change(o order.Order, x *order.Reply) []watch.Change {
	n := m.nodes[o.Path]
	switch o.Kind {
	case 1:
		m.nodes[o.Path] = shelf.Node{Path: o.Path, Value: o.Value, Owner: o.Session}
		return []watch.Change{{Kind: created, Path: o.Path}}
	case 3:
		n.Value = o.Value
		n.Version++
		m.nodes[o.Path] = n
		x.Version = n.Version
		return []watch.Change{{Kind: set, Path: o.Path}}
	}
	delete(m.nodes, o.Path)
	return []watch.Change{{Kind: deleted, Path: o.Path}}
}

func (m *model) read(o order.Order, x *order.Reply) {
	if o.Kind == 2 {
		x.Value, x.Version = m.nodes[o.Path].Value, m.nodes[o.Path].Version
		return
	}
	for _, p := range m.kidsOf(o.Path) {
		x.Names = append(x.Names, p[strings.LastIndex(p, "/")+1:])
	}
}

func (m *model) errorOfSession(o order.Order) api.Errno {
	_, there := m.sessions[o.Session]
	switch {
	case o.Kind == 6 && (o.Session < 1 || o.Span < 1 || o.Span > 1000):
		return api.ErrArg
	case o.Kind == 6 && there:
		return api.ErrExists
	case o.Kind == 6 && len(m.sessions) == maxSessions:
		return api.ErrFull
	case (o.Kind == 7 || o.Kind == 8) && !there:
		return api.ErrLease
	case o.Kind == 9 && o.Span < m.now:
		return api.ErrStale
	case o.Kind == 9 && o.Span > maxTime:
		return api.ErrLarge
	}
	return api.OK
}

func (m *model) session(o order.Order, x *order.Reply) []watch.Change {
	s := m.sessions[o.Session]
	switch o.Kind {
	case 6:
		m.sessions[o.Session] = lease.Session{Id: o.Session, Span: o.Span, Until: m.now + o.Span}
	case 7:
		m.sessions[o.Session] = lease.Session{Id: s.Id, Span: s.Span, Until: m.now + s.Span}
	case 8:
		return m.end(o.Session)
	case 9:
		m.now, x.Version = o.Span, o.Span
		var changes []watch.Change
		for _, id := range slices.Sorted(maps.Keys(m.sessions)) {
			if m.sessions[id].Until <= m.now {
				changes = append(changes, m.end(id)...)
			}
		}
		return changes
	}
	return nil
}

// end removes a session, and its nodes.
func (m *model) end(id int) []watch.Change {
	delete(m.sessions, id)
	var paths []string
	for p, n := range m.nodes {
		if n.Owner == id {
			paths = append(paths, p)
		}
	}
	slices.SortFunc(paths, func(a, b string) int { return strings.Compare(key(a), key(b)) })
	var changes []watch.Change
	for _, p := range paths {
		delete(m.nodes, p)
		changes = append(changes, watch.Change{Kind: deleted, Path: p})
	}
	return changes
}

func (m *model) fire(changes []watch.Change) []watch.Event {
	var events []watch.Event
	for _, c := range changes {
		var left []watch.Watch
		for _, w := range m.watches {
			triggers := c.Path == w.Path && !w.Kids || w.Kids && c.Kind != set && c.Path != "/" && parentOf(c.Path) == w.Path
			if triggers {
				events = append(events, watch.Event{W: w, C: c})
			} else {
				left = append(left, w)
			}
		}
		m.watches = left
	}
	return events
}

// paths are few, so that requests meet at them; some are no paths.
var paths = []string{"/", "/a", "/b", "/a/a", "/a/b", "/b/a", "/a/b/c", "/-", "/a-b", "/c", "/d", "/c/a", "/wide1", "/wide7", "/g", "", "a", "/a/", "/A"}

func pick[T any](r *rand.Rand, l ...T) T { return l[r.IntN(len(l))] }

// randomOrder is a request of one of few clients, mostly one that is new to the realm, and has a chance to succeed.
func randomOrder(r *rand.Rand, given realm.Realm) order.Order {
	client := pick(r, 0, 1, 2, 3, 1000)
	last, _ := realm.Last(given, client)
	o := order.Order{Client: client, Seq: last.Seq + 1 + r.IntN(2), Kind: r.IntN(12)}
	switch r.IntN(20) {
	case 0:
		o.Seq = last.Seq
	case 1:
		o.Seq = last.Seq - 1 - r.IntN(3)
	case 2:
		o.Client = pick(r, -1, 1001, 51, 53)
	case 3:
		o.Seq = pick(r, 0, -1, maxSeq+1)
	}
	node := given.Shelf.L[r.IntN(len(given.Shelf.L))].Path
	p, id := pick(r, paths[r.IntN(len(paths))], paths[r.IntN(len(paths))], node, node+"/x"), pick(r, 1, 2, 3, 4, 5, 77)
	switch o.Kind {
	case 1:
		o.Path, o.Value, o.Session = p, pick(r, "", "x", "y"), pick(r, 0, 0, id, -1)
	case 2, 5, 10, 11:
		o.Path = p
	case 3:
		o.Path, o.Value, o.Version = p, pick(r, "", "x", "y"), pick(r, -1, -1, versionOf(given, p), r.IntN(3))
	case 4:
		o.Path, o.Version = p, pick(r, -1, versionOf(given, p), r.IntN(3))
	case 6:
		o.Session, o.Span = pick(r, id, id, id, 0, 60), pick(r, 3, 10, 20, 1000, 0, 1001)
	case 7, 8:
		o.Session = id
	case 9:
		o.Span = pick(r, given.Book.Now, given.Book.Now+1, given.Book.Now+2, given.Book.Now+9, given.Book.Now-1, maxTime+1)
	}
	if r.IntN(30) == 0 {
		// Mostly not valid: a field that few kinds use.
		o.Version = 1
	}
	return o
}

func versionOf(r realm.Realm, p string) int {
	for _, n := range r.Shelf.L {
		if n.Path == p {
			return n.Version
		}
	}
	return 0
}

// wantModel checks one request against the model.
func wantModel(t *testing.T, m *model, given realm.Realm, o order.Order) (realm.Realm, order.Reply, []watch.Event) {
	t.Helper()
	what := fmt.Sprintf("%q", fmt.Sprint(o))
	x, events := m.apply(o)
	r, got, told := apply(t, given, o)
	wantReply(t, what, got, x)
	wantRealm(t, what, r, m.realm())
	wantEvents(t, what, told, events)
	wantRight(t, r, true)
	wantEnded(t, given, r)
	return r, got, told
}

// wantEnded checks that of sessions that have ended since, no node is there.
func wantEnded(t *testing.T, before, after realm.Realm) {
	t.Helper()
	for _, s := range before.Book.L {
		owns := func(n shelf.Node) bool { return n.Owner == s.Id }
		if !lease.Has(after.Book, s.Id) && slices.ContainsFunc(after.Shelf.L, owns) {
			t.Errorf("session %d has ended, but not its nodes: %v", s.Id, after.Shelf.L)
		}
	}
}

// answered are the requests that took effect, with their replies, client by client.
type answered map[int][]answer

type answer struct {
	o order.Order
	x order.Reply
}

// wantRepeats checks that the last request of each client has its reply again, that earlier ones are stale, and that none of them changes anything.
func wantRepeats(t *testing.T, r realm.Realm, all answered) {
	t.Helper()
	for _, l := range all {
		earlier, last := l[:len(l)-1], l[len(l)-1]
		wantNoEffect(t, r, last.o, last.x)
		// The first one, and the newest ones.
		for _, a := range slices.Concat(earlier[:min(1, len(earlier))], earlier[max(0, len(earlier)-2):]) {
			wantNoEffect(t, r, a.o, order.Reply{Client: a.o.Client, Seq: a.o.Seq, E: api.ErrStale})
		}
	}
}

// wantRow checks a row of requests, one by one, against the model; those that took effect are repeated after each of them.
func wantRow(t *testing.T, given realm.Realm, steps int, next func(given realm.Realm) order.Order) ([]order.Order, answered) {
	t.Helper()
	var row []order.Order
	m, r, all := modelOf(given), given, answered{}
	for range steps {
		o := next(r)
		row = append(row, o)
		before := r
		var x order.Reply
		r, x, _ = wantModel(t, m, before, o)
		// What takes effect changes the last reply, at least.
		if !isSame(r, before) {
			all[o.Client] = append(all[o.Client], answer{o, x})
		}
		wantRepeats(t, r, all)
		if t.Failed() {
			t.Fatalf("after %v", row)
		}
	}
	return row, all
}

// starts are realms that a row of requests begins with; the last ones have little room.
func starts() []realm.Realm {
	crowded := wide(maxNodes - 2)
	for i := range maxSessions - 2 {
		crowded = withSessions(crowded, lease.Session{Id: 10 + i, Span: 1000, Until: 5 + i})
		crowded = withReplies(crowded, order.Reply{Client: 100 + i, Seq: 1})
	}
	for i := range maxWatches - 3 {
		crowded = withWatches(crowded, data("/b/a", 100+i))
	}
	return []realm.Realm{realm.New(), mixed(), crowded, fullOfAll()}
}

// P13.2: many rows of requests, one by one.
func TestManyRequests(t *testing.T) {
	type outcome struct {
		kind int
		e    api.Errno
	}
	there := map[outcome]int{}
	for i, start := range starts() {
		wantRight(t, start, true)
		for seed := range uint64(10) {
			r := rand.New(rand.NewPCG(seed, uint64(i)))
			row, all := wantRow(t, start, 120, func(given realm.Realm) order.Order { return randomOrder(r, given) })
			wantFold(t, start, row)
			for _, l := range all {
				for _, a := range l {
					there[outcome{a.o.Kind, a.x.E}]++
				}
			}
		}
	}
	// All that an effect may lead to is there.
	for kind, errnos := range map[int][]api.Errno{
		0: {}, 1: {api.ErrLease, api.ErrName, api.ErrExists, api.ErrNone, api.ErrKids, api.ErrFull}, 2: {api.ErrName, api.ErrNone}, 3: {api.ErrName, api.ErrNone, api.ErrVersion, api.ErrFull},
		4: {api.ErrName, api.ErrNone, api.ErrVersion, api.ErrKids}, 5: {api.ErrName, api.ErrNone}, 6: {api.ErrArg, api.ErrExists, api.ErrFull}, 7: {api.ErrLease}, 8: {api.ErrLease},
		9: {api.ErrStale, api.ErrLarge}, 10: {api.ErrName, api.ErrFull}, 11: {api.ErrName, api.ErrFull},
	} {
		for _, e := range append(errnos, api.OK) {
			if there[outcome{kind, e}] == 0 {
				t.Errorf("no request of kind %d has the error %d", kind, e)
			}
		}
	}
}

// randomRow is a row of requests as they would be asked one by one.
func randomRow(r *rand.Rand, given realm.Realm, n int) []order.Order {
	var row []order.Order
	for range n {
		o := randomOrder(r, given)
		row = append(row, o)
		given, _, _ = realm.Apply(given, o)
	}
	return row
}

// withRepeats is a row in which each request may be followed, then or later, by copies of it; and the place of each request itself.
func withRepeats(r *rand.Rand, row []order.Order) (all []order.Order, places []int) {
	for i, o := range row {
		places = append(places, len(all))
		all = append(all, o)
		for range r.IntN(3) {
			all = append(all, row[r.IntN(i+1)])
		}
	}
	return all, places
}

// P13.2: requests that are applied several times lead to the same realm and the same events as if each were applied once.
func TestRepeatsHaveNoEffect(t *testing.T) {
	for i, start := range starts() {
		for seed := range uint64(25) {
			r := rand.New(rand.NewPCG(seed, 100+uint64(i)))
			row := randomRow(r, start, 120)
			all, places := withRepeats(r, row)
			once, replies, events := fold(t, start, row)
			often, more, told := fold(t, start, all)
			wantRealm(t, "with repeats", often, once)
			wantEvents(t, "with repeats", told, events)
			for i, k := range places {
				wantReply(t, fmt.Sprintf("request %d of %d", i, len(row)), more[k], replies[i])
			}
			// The whole row again, after it.
			again, _, told := fold(t, once, row)
			wantRealm(t, "all of them again", again, once)
			wantEvents(t, "all of them again", told, nil)
		}
	}
}

// The same requests have the same result each time.
func TestSameEachTime(t *testing.T) {
	for i, start := range starts() {
		r := rand.New(rand.NewPCG(uint64(i), 200))
		row := randomRow(r, start, 300)
		left, replies, events := fold(t, start, row)
		text := realm.Text(left)
		for range 20 {
			other, x, told := fold(t, copied(start), slices.Clone(row))
			wantRealm(t, "again", other, left)
			wantEvents(t, "again", told, events)
			if !slices.EqualFunc(x, replies, isSameReply) || !bytes.Equal(realm.Text(other), text) || realm.Digest(other) != realm.Digest(left) {
				t.Errorf("the same requests have other results")
			}
		}
	}
}

// What other clients were answered before does not matter to the effect of a request.
func TestEffectsDependOnlyOnTheRequests(t *testing.T) {
	for i, start := range starts()[:2] {
		for seed := range uint64(20) {
			r := rand.New(rand.NewPCG(seed, 300+uint64(i)))
			row := randomRow(r, start, 100)
			left, replies, events := fold(t, start, row)
			strangers := []order.Reply{{Client: 500, Seq: 7, E: api.ErrKids, Value: "v", Version: 4, Names: []string{"a"}}, {Client: 999, Seq: maxSeq}, {Client: 4, Seq: 1, E: api.ErrFull}}
			other, x, told := fold(t, withReplies(start, strangers...), row)
			wantRealm(t, "with other replies", other, withReplies(left, strangers...))
			wantEvents(t, "with other replies", told, events)
			if !slices.EqualFunc(x, replies, isSameReply) {
				t.Errorf("with other replies: %v, not %v", x, replies)
			}
		}
	}
}

// The chapter's example.
func TestExample(t *testing.T) {
	o := order.Order{Client: 1, Seq: 1, Kind: 1, Path: "/a"}
	r := wantEffect(t, realm.New(), o, order.Reply{}, withNodes(realm.New(), at("/a")))
	wantNoEffect(t, r, o, order.Reply{Client: 1, Seq: 1})
	o.Seq = 2
	wantFault(t, r, o, api.ErrExists)
}

// A reply with an error is the last one, too: what would succeed by now has that error again.
func TestErrorsAreRepeated(t *testing.T) {
	get := order.Order{Client: 1, Seq: 1, Kind: 2, Path: "/a"}
	r := wantEffect(t, realm.New(), get, order.Reply{E: api.ErrNone}, realm.New())
	r = wantEffect(t, r, order.Order{Client: 2, Seq: 1, Kind: 1, Path: "/a", Value: "v"}, order.Reply{}, withNodes(r, shelf.Node{Path: "/a", Value: "v"}))
	wantNoEffect(t, r, get, order.Reply{Client: 1, Seq: 1, E: api.ErrNone})
	get.Seq = 2
	r = wantEffect(t, r, get, order.Reply{Value: "v"}, r)
	r = wantEffect(t, r, order.Order{Client: 2, Seq: 2, Kind: 4, Path: "/a", Version: 0}, order.Reply{}, withoutNodes(r, "/a"))
	wantNoEffect(t, r, get, order.Reply{Client: 1, Seq: 2, Value: "v"})
}

// A session that is opened again owns nothing of what it owned before.
func TestSessionOpenedAgain(t *testing.T) {
	for _, end := range []order.Order{{Client: 2, Seq: 1, Kind: 8, Session: 4}, {Client: 2, Seq: 1, Kind: 9, Span: 5}} {
		r, replies, _ := fold(t, realm.New(), []order.Order{
			{Client: 1, Seq: 1, Kind: 6, Session: 4, Span: 5}, {Client: 1, Seq: 2, Kind: 1, Path: "/a", Session: 4}, end,
			{Client: 1, Seq: 3, Kind: 6, Session: 4, Span: 5}, {Client: 1, Seq: 4, Kind: 1, Path: "/b", Session: 4}, {Client: 1, Seq: 5, Kind: 5, Path: "/"},
		})
		for _, x := range replies {
			if x.E != api.OK {
				t.Errorf("%v", x)
			}
		}
		if !slices.Equal(replies[5].Names, []string{"b"}) || len(r.Shelf.L) != 2 {
			t.Errorf("%v, %v", replies[5], r.Shelf)
		}
	}
}

// fuzzedOrders are the requests that bytes stand for: six bytes each.
func fuzzedOrders(b []byte) []order.Order {
	var l []order.Order
	for ; len(b) >= 6 && len(l) < 60; b = b[6:] {
		o := order.Order{Client: int(b[0])%5 - 1, Seq: int(b[1]) % 64, Kind: int(b[2])%14 - 1}
		p, n := paths[int(b[3])%len(paths)], int(int8(b[4]))
		switch o.Kind {
		case 1:
			o.Path, o.Value, o.Session = p, string(b[5:6]), n%5
		case 3:
			o.Path, o.Value, o.Version = p, string(b[5:6]), n%3
		case 4:
			o.Path, o.Version = p, n%3
		case 6:
			o.Session, o.Span = n%5, int(b[5])
		case 7, 8:
			o.Session = n % 5
		case 9:
			o.Span = n
		case 2, 5, 10, 11, 12, -1:
			o.Path = p
		}
		l = append(l, o)
	}
	return l
}

func FuzzOnce(f *testing.F) {
	f.Add([]byte("\x02\x01\x07\x00\x04\x05\x02\x02\x02\x01\x04x\x02\x03\x09\x00\x04\x00"))
	f.Add([]byte("some requests of some clients, some of them not valid, and some not new"))
	f.Fuzz(func(t *testing.T, b []byte) {
		row := fuzzedOrders(b)
		for _, start := range []realm.Realm{realm.New(), mixed()} {
			left := slices.Clone(row)
			wantRow(t, start, len(row), func(realm.Realm) order.Order {
				o := left[0]
				left = left[1:]
				return o
			})
			wantFold(t, start, row)
		}
	})
}

// fuzzedRealm is the realm that bytes stand for: each part is begun by one byte.
func fuzzedRealm(b []byte) realm.Realm {
	var r realm.Realm
	text := func(b []byte) string { return string(b[:min(len(b), int(b[0])%4)]) }
	for ; len(b) >= 6; b = b[6:] {
		n, k := int(int8(b[2])), int(int8(b[3]))
		switch b[0] % 5 {
		case 0:
			r.Shelf.L = append(r.Shelf.L, shelf.Node{Path: text(b[4:]), Value: text(b[5:]), Version: n, Owner: k})
		case 1:
			r.Book.L = append(r.Book.L, lease.Session{Id: n, Span: k, Until: int(b[4])})
		case 2:
			r.Table.L = append(r.Table.L, watch.Watch{Path: text(b[4:]), Client: n, Kids: b[3]%2 == 1})
		case 3:
			r.Seen = append(r.Seen, order.Reply{Client: n, Seq: k, E: api.Errno(b[4]), Value: text(b[4:]), Version: int(b[1]), Names: strings.Split(text(b[5:]), "a")})
		case 4:
			r.Book.Now = n
		}
	}
	return r
}

func FuzzText(f *testing.F) {
	f.Add([]byte("\x00ab\x01abc"), []byte("\x00ab\x01abc"))
	f.Add([]byte("\x01aaaaa\x02bbbbb\x03ccccc\x04ddddd\x00eeeee"), []byte("\x01aaaaa\x02bbbbb\x03ccccc\x04ddddd"))
	f.Fuzz(func(t *testing.T, a, b []byte) {
		x, y := fuzzedRealm(a), fuzzedRealm(b)
		wantText(t, x, encoded(x))
		wantText(t, y, encoded(y))
		same := isSame(x, y)
		wantSame(t, x, y, same)
		if same != bytes.Equal(realm.Text(x), realm.Text(y)) || same != (realm.Digest(x) == realm.Digest(y)) {
			t.Errorf("%.1000q, %.1000q: equal is %v", fmt.Sprint(x), fmt.Sprint(y), same)
		}
		realm.Right(x)
	})
}
