package realm_test

import (
	"cmp"
	"fmt"
	"math"
	"slices"
	"strings"
	"testing"
	"unsafe"

	"consistory/api"
	"consistory/lease"
	"consistory/order"
	"consistory/realm"
	"consistory/shelf"
	"consistory/watch"
)

const (
	maxNodes    = 200
	maxWatches  = 200
	maxSessions = 50
	maxSeen     = 50
	maxClient   = 1000
	maxSeq      = 1_000_000_000
	maxTime     = 1_000_000_000
	maxVersion  = 1_000_000_000
)

func long(n int) string { return strings.Repeat("a", n) }

func at(p string) shelf.Node { return shelf.Node{Path: p} }

func owned(p string, owner int) shelf.Node { return shelf.Node{Path: p, Owner: owner} }

func data(p string, client int) watch.Watch { return watch.Watch{Path: p, Client: client} }

func kids(p string, client int) watch.Watch { return watch.Watch{Path: p, Client: client, Kids: true} }

// copied is r with memory of its own.
func copied(r realm.Realm) realm.Realm {
	c := realm.Realm{
		Shelf: shelf.Shelf{L: slices.Clone(r.Shelf.L)},
		Book:  lease.Book{Now: r.Book.Now, L: slices.Clone(r.Book.L)},
		Table: watch.Table{L: slices.Clone(r.Table.L)},
		Seen:  slices.Clone(r.Seen),
	}
	for i, x := range c.Seen {
		c.Seen[i].Names = slices.Clone(x.Names)
	}
	return c
}

// key is what orders paths as the chapter of package path does.
func key(p string) string { return strings.ReplaceAll(p, "/", "\x00") }

func withNodes(r realm.Realm, l ...shelf.Node) realm.Realm {
	r = copied(r)
	for _, n := range l {
		r.Shelf.L = append(slices.DeleteFunc(r.Shelf.L, func(m shelf.Node) bool { return m.Path == n.Path }), n)
	}
	slices.SortFunc(r.Shelf.L, func(a, b shelf.Node) int { return cmp.Compare(key(a.Path), key(b.Path)) })
	return r
}

func withoutNodes(r realm.Realm, paths ...string) realm.Realm {
	r = copied(r)
	r.Shelf.L = slices.DeleteFunc(r.Shelf.L, func(n shelf.Node) bool { return slices.Contains(paths, n.Path) })
	return r
}

func withSessions(r realm.Realm, l ...lease.Session) realm.Realm {
	r = copied(r)
	for _, s := range l {
		r.Book.L = append(slices.DeleteFunc(r.Book.L, func(o lease.Session) bool { return o.Id == s.Id }), s)
	}
	slices.SortFunc(r.Book.L, func(a, b lease.Session) int { return cmp.Compare(a.Id, b.Id) })
	return r
}

func withoutSessions(r realm.Realm, ids ...int) realm.Realm {
	r = copied(r)
	r.Book.L = slices.DeleteFunc(r.Book.L, func(s lease.Session) bool { return slices.Contains(ids, s.Id) })
	return r
}

func atTime(r realm.Realm, now int) realm.Realm {
	r = copied(r)
	r.Book.Now = now
	return r
}

func withWatches(r realm.Realm, l ...watch.Watch) realm.Realm {
	r = copied(r)
	r.Table.L = append(r.Table.L, l...)
	return r
}

func withoutWatches(r realm.Realm, l ...watch.Watch) realm.Realm {
	r = copied(r)
	r.Table.L = slices.DeleteFunc(r.Table.L, func(w watch.Watch) bool { return slices.Contains(l, w) })
	return r
}

// withReplies is r with these as the last replies to their clients.
func withReplies(r realm.Realm, l ...order.Reply) realm.Realm {
	r = copied(r)
	for _, x := range l {
		r.Seen = append(slices.DeleteFunc(r.Seen, func(o order.Reply) bool { return o.Client == x.Client }), x)
	}
	slices.SortFunc(r.Seen, func(a, b order.Reply) int { return cmp.Compare(a.Client, b.Client) })
	return r
}

// mixed is a realm with several of each part. Session 6 owns nothing; session 77, which owns /f, does not exist.
func mixed() realm.Realm {
	return realm.Realm{
		Shelf: shelf.Shelf{L: []shelf.Node{
			at("/"), {Path: "/a", Value: "one", Version: 2}, {Path: "/a/b", Value: "two", Owner: 4}, {Path: "/a/c", Version: 7},
			owned("/d", 9), {Path: "/e", Value: "three", Version: 1, Owner: 4}, owned("/f", 77), {Path: "/g", Version: maxVersion},
		}},
		Book: lease.Book{Now: 10, L: []lease.Session{{Id: 4, Span: 5, Until: 14}, {Id: 6, Span: 100, Until: 110}, {Id: 9, Span: 7, Until: 12}}},
		Table: watch.Table{L: []watch.Watch{
			data("/a", 1), kids("/a", 3), data("/a/b", 3), data("/a", 0), kids("/", 3), data("/new", 8), data("/e", 5), kids("/a", 1), data("/d", 5),
		}},
		Seen: []order.Reply{
			{Client: 1, Seq: 4, Value: "one", Version: 1}, {Client: 3, Seq: 9, Names: []string{"b", "c"}}, {Client: 1000, Seq: 2, E: api.ErrNone},
		},
	}
}

// wide is the realm with so many nodes, wide/0 and so on below the root.
func wide(n int) realm.Realm {
	r := realm.New()
	for i := range n - 1 {
		r = withNodes(r, at(fmt.Sprintf("/wide%d", i)))
	}
	return r
}

// seenBy is the realm that answered so many clients, each of them some requests.
func seenBy(n int) realm.Realm {
	r := realm.New()
	for i := range n {
		r.Seen = append(r.Seen, order.Reply{Client: 2 * i, Seq: 10 + i})
	}
	return r
}

// fullOfAll is a realm with as much of each part as there may be.
func fullOfAll() realm.Realm {
	r := wide(maxNodes)
	for i := range maxSessions {
		r.Book.L = append(r.Book.L, lease.Session{Id: i + 1, Span: 1000, Until: 1 + i})
	}
	for i := range maxWatches {
		r.Table.L = append(r.Table.L, watch.Watch{Path: "/wide1", Client: i / 2, Kids: i%2 == 1})
	}
	r.Seen = seenBy(maxSeen).Seen
	r.Seen[3].Names = slices.Repeat([]string{"name"}, maxNodes)
	return r
}

// realms are valid ones.
func realms() []realm.Realm {
	return []realm.Realm{realm.New(), mixed(), wide(maxNodes), seenBy(maxSeen), fullOfAll(), withReplies(realm.New(), order.Reply{Client: maxClient, Seq: maxSeq})}
}

func isSame(a, b realm.Realm) bool {
	return slices.Equal(a.Shelf.L, b.Shelf.L) && a.Book.Now == b.Book.Now && slices.Equal(a.Book.L, b.Book.L) &&
		slices.Equal(a.Table.L, b.Table.L) && slices.EqualFunc(a.Seen, b.Seen, isSameReply)
}

func isSameReply(a, b order.Reply) bool {
	return a.Client == b.Client && a.Seq == b.Seq && a.E == b.E && a.Value == b.Value && a.Version == b.Version && slices.Equal(a.Names, b.Names)
}

// padded is a copy of l with spare capacity, which holds marks.
func padded[T any](l []T, mark T) []T {
	c := slices.Repeat([]T{mark}, len(l)+3)
	copy(c, l)
	return c[:len(l)]
}

var (
	markedNode    = shelf.Node{Path: "mark", Owner: -7}
	markedSession = lease.Session{Id: -7}
	markedWatch   = data("mark", -7)
	markedReply   = order.Reply{Client: -7}
)

// guarded is a copy of r whose lists all have marks behind them.
func guarded(r realm.Realm) realm.Realm {
	c := realm.Realm{
		Shelf: shelf.Shelf{L: padded(r.Shelf.L, markedNode)},
		Book:  lease.Book{Now: r.Book.Now, L: padded(r.Book.L, markedSession)},
		Table: watch.Table{L: padded(r.Table.L, markedWatch)},
		Seen:  padded(r.Seen, markedReply),
	}
	for i, x := range c.Seen {
		c.Seen[i].Names = padded(x.Names, "mark")
	}
	return c
}

// isMarked tells whether l is as padded left it.
func isMarked[T any](given, l []T, equal func(a, b T) bool, mark T) bool {
	return slices.EqualFunc(l[:cap(l)], padded(given, mark)[:len(given)+3], equal)
}

func equal[T comparable](a, b T) bool { return a == b }

// wantKept checks that nothing was written to what guarded made of r.
func wantKept(t *testing.T, r, c realm.Realm) {
	t.Helper()
	kept := isMarked(r.Shelf.L, c.Shelf.L, equal, markedNode) && r.Book.Now == c.Book.Now && isMarked(r.Book.L, c.Book.L, equal, markedSession) &&
		isMarked(r.Table.L, c.Table.L, equal, markedWatch) && isMarked(r.Seen, c.Seen, isSameReply, markedReply)
	for i, x := range r.Seen {
		kept = kept && isMarked(x.Names, c.Seen[i].Names, equal, "mark")
	}
	if !kept {
		t.Errorf("the realm that was given is changed: %.2000q", fmt.Sprint(c))
	}
}

// place is where the memory of a list is, with its spare capacity.
type place struct {
	from, to uintptr
	what     string
}

func placeOf[T any](what string, l []T) place {
	l = l[:cap(l)]
	if len(l) == 0 {
		return place{}
	}
	from := uintptr(unsafe.Pointer(unsafe.SliceData(l)))
	return place{from: from, to: from + uintptr(len(l))*unsafe.Sizeof(l[0]), what: what}
}

func placesOf(what string, r realm.Realm) []place {
	l := []place{placeOf(what+".Shelf", r.Shelf.L), placeOf(what+".Book", r.Book.L), placeOf(what+".Table", r.Table.L), placeOf(what+".Seen", r.Seen)}
	for i, x := range r.Seen {
		l = append(l, placeOf(fmt.Sprintf("%s.Seen[%d].Names", what, i), x.Names))
	}
	return l
}

// wantApart checks that no two lists share memory.
func wantApart(t *testing.T, l []place) {
	t.Helper()
	l = slices.DeleteFunc(l, func(p place) bool { return p.from == p.to })
	slices.SortFunc(l, func(a, b place) int { return cmp.Compare(a.from, b.from) })
	for i := range max(len(l)-1, 0) {
		if l[i].to > l[i+1].from {
			t.Errorf("%s and %s share memory", l[i].what, l[i+1].what)
		}
	}
}

// apply is Apply, which must leave what it is given, and return memory of its own.
func apply(t *testing.T, given realm.Realm, o order.Order) (realm.Realm, order.Reply, []watch.Event) {
	t.Helper()
	c := guarded(given)
	r, x, events := realm.Apply(c, o)
	wantKept(t, given, c)
	wantApart(t, slices.Concat(placesOf("given", c), placesOf("left", r), []place{placeOf("the reply's Names", x.Names), placeOf("the events", events)}))
	return r, x, events
}

// fold is Fold, which must leave what it is given, and return memory of its own.
func fold(t *testing.T, given realm.Realm, l []order.Order) (realm.Realm, []order.Reply, []watch.Event) {
	t.Helper()
	c, orders := guarded(given), padded(l, order.Order{Client: -7})
	r, replies, events := realm.Fold(c, orders)
	wantKept(t, given, c)
	if !isMarked(l, orders, equal, order.Order{Client: -7}) {
		t.Errorf("the requests that were given are changed: %.2000q", fmt.Sprint(orders))
	}
	places := slices.Concat(placesOf("given", c), placesOf("left", r), []place{placeOf("the replies", replies), placeOf("the events", events)})
	for i, x := range replies {
		places = append(places, placeOf(fmt.Sprintf("the Names of reply %d", i), x.Names))
	}
	wantApart(t, places)
	return r, replies, events
}

func wantRealm(t *testing.T, what string, got, want realm.Realm) {
	t.Helper()
	if !isSame(got, want) || !realm.Same(got, want) {
		t.Errorf("%.300s: %.2000q, not %.2000q", what, fmt.Sprint(got), fmt.Sprint(want))
	}
}

func wantReply(t *testing.T, what string, got, want order.Reply) {
	t.Helper()
	if !isSameReply(got, want) {
		t.Errorf("%.300s: the reply is %.1000q, not %.1000q", what, fmt.Sprint(got), fmt.Sprint(want))
	}
}

func wantEvents(t *testing.T, what string, got, want []watch.Event) {
	t.Helper()
	if !slices.Equal(got, want) {
		t.Errorf("%.300s: the events are %.1000q, not %.1000q", what, fmt.Sprint(got), fmt.Sprint(want))
	}
}

func wantRight(t *testing.T, r realm.Realm, want bool) {
	t.Helper()
	c := guarded(r)
	if realm.Right(c) != want {
		t.Errorf("Right(%.2000q) is not %v", fmt.Sprint(r), want)
	}
	wantKept(t, r, c)
}

func TestNew(t *testing.T) {
	r := realm.New()
	wantRight(t, r, true)
	if !shelf.Same(r.Shelf, shelf.New()) || !lease.Same(r.Book, lease.New()) || !watch.Same(r.Table, watch.Table{}) || len(r.Seen) != 0 {
		t.Errorf("New() = %v", r)
	}
	wantRealm(t, "New", r, realm.Realm{Shelf: shelf.Shelf{L: []shelf.Node{at("/")}}})
	wantApart(t, slices.Concat(placesOf("one", r), placesOf("another one", realm.New())))
}

func TestRightOfValidRealms(t *testing.T) {
	for _, r := range realms() {
		wantRight(t, r, true)
	}
	// Nil and empty slices are equivalent.
	r := realm.New()
	r.Book.L, r.Table.L, r.Seen = []lease.Session{}, []watch.Watch{}, []order.Reply{}
	wantRight(t, r, true)
}

// badShelves, badBooks and badTables are parts that their packages call not valid.
func badShelves() []shelf.Shelf {
	return []shelf.Shelf{
		{}, {L: []shelf.Node{at("/a")}}, {L: []shelf.Node{owned("/", 1)}}, {L: []shelf.Node{at("/"), at("/a/b")}}, {L: []shelf.Node{at("/"), at("/b"), at("/a")}},
		{L: []shelf.Node{at("/"), owned("/a", -1)}}, {L: []shelf.Node{{Path: "/", Version: -1}}}, {L: []shelf.Node{{Path: "/", Value: long(1001)}}}, wide(maxNodes + 1).Shelf,
	}
}

func badBooks() []lease.Book {
	many := lease.Book{}
	for i := range maxSessions + 1 {
		many.L = append(many.L, lease.Session{Id: i + 1, Span: 1, Until: 1})
	}
	return []lease.Book{
		{Now: -1}, {Now: maxTime + 1}, {L: []lease.Session{{Id: 0, Span: 1, Until: 1}}}, {L: []lease.Session{{Id: 1, Span: 0, Until: 1}}},
		{L: []lease.Session{{Id: 1, Span: 1, Until: 0}}}, {L: []lease.Session{{Id: 2, Span: 1, Until: 1}, {Id: 1, Span: 1, Until: 1}}}, many,
	}
}

func badTables() []watch.Table {
	many := watch.Table{}
	for i := range maxWatches + 1 {
		many.L = append(many.L, data("/a", i))
	}
	return []watch.Table{{L: []watch.Watch{data("a", 1)}}, {L: []watch.Watch{data("/a", -1)}}, {L: []watch.Watch{data("/a", 1), data("/a", 1)}}, many}
}

func badSeen() [][]order.Reply {
	return [][]order.Reply{
		{{Client: -1, Seq: 1}}, {{Client: 1001, Seq: 1}}, {{Client: 1, Seq: 0}}, {{Client: 1, Seq: -1}}, {{Client: 1, Seq: 1}, {Client: 1, Seq: 2}},
		{{Client: 2, Seq: 1}, {Client: 1, Seq: 1}}, {{}}, seenBy(maxSeen + 1).Seen,
	}
}

// Each part alone is not valid, and each two of them.
func TestRightOfEachPart(t *testing.T) {
	for _, r := range realms() {
		for _, s := range badShelves() {
			wantRight(t, realm.Realm{Shelf: s, Book: r.Book, Table: r.Table, Seen: r.Seen}, false)
		}
		for _, b := range badBooks() {
			wantRight(t, realm.Realm{Shelf: r.Shelf, Book: b, Table: r.Table, Seen: r.Seen}, false)
			wantRight(t, realm.Realm{Shelf: badShelves()[0], Book: b, Table: r.Table, Seen: r.Seen}, false)
		}
		for _, w := range badTables() {
			wantRight(t, realm.Realm{Shelf: r.Shelf, Book: r.Book, Table: w, Seen: r.Seen}, false)
			wantRight(t, realm.Realm{Shelf: r.Shelf, Book: badBooks()[0], Table: w, Seen: r.Seen}, false)
		}
		for _, l := range badSeen() {
			wantRight(t, realm.Realm{Shelf: r.Shelf, Book: r.Book, Table: r.Table, Seen: l}, false)
			wantRight(t, realm.Realm{Shelf: r.Shelf, Book: r.Book, Table: badTables()[0], Seen: l}, false)
		}
	}
	wantRight(t, realm.Realm{}, false)
}

// The parts need not fit together: a node may have an owner, and a watch or a reply a client, of which nothing else is known.
func TestRightOfPartsThatDoNotFit(t *testing.T) {
	r := withWatches(withNodes(realm.New(), owned("/a", math.MaxInt)), data("/not/there", math.MaxInt))
	wantRight(t, r, true)
	wantRight(t, withReplies(r, order.Reply{Client: 9, Seq: 1, E: 99, Value: long(2000), Version: -1, Names: slices.Repeat([]string{"/"}, 300)}), true)
}

func TestRightOfEachNumberOfReplies(t *testing.T) {
	for n := range 60 {
		wantRight(t, seenBy(n), n <= maxSeen)
	}
	wantRight(t, seenBy(5000), false)
}

func TestRightOfClients(t *testing.T) {
	for client, want := range map[int]bool{0: true, 1: true, 999: true, 1000: true, -1: false, 1001: false, math.MinInt: false, math.MaxInt: false} {
		r := realm.New()
		r.Seen = []order.Reply{{Client: client, Seq: 1}}
		wantRight(t, r, want)
	}
	for _, c := range []struct {
		clients []int
		want    bool
	}{
		{[]int{0, 1}, true}, {[]int{0, 1000}, true}, {[]int{999, 1000}, true}, {[]int{1, 1}, false}, {[]int{0, 0}, false}, {[]int{1000, 1000}, false}, {[]int{2, 1}, false},
		{[]int{-1, 0}, false}, {[]int{1000, 1001}, false}, {[]int{0, 2, 1}, false}, {[]int{1, 0, 2}, false}, {[]int{0, 1, 1}, false}, {[]int{1, 2, 1}, false}, {[]int{0, 1, 2}, true},
	} {
		r := realm.New()
		for _, client := range c.clients {
			r.Seen = append(r.Seen, order.Reply{Client: client, Seq: 1})
		}
		wantRight(t, r, c.want)
	}
}

// One reply at each place is not valid.
func TestRightOfOneBadReply(t *testing.T) {
	for _, n := range []int{1, 2, 3, maxSeen} {
		for i := range n {
			for seq, want := range map[int]bool{1: true, 2: true, maxSeq: true, maxSeq + 1: true, 0: false, -1: false, math.MinInt: false} {
				r := seenBy(n)
				r.Seen[i].Seq = seq
				wantRight(t, r, want)
			}
			for _, client := range []int{-1, 1001, 2*i - 2, 2*i + 2} {
				r := seenBy(n)
				r.Seen[i].Client = client
				// The clients at the places beside it are 2*i-2 and 2*i+2.
				wantRight(t, r, i == n-1 && client == 2*i+2)
			}
		}
	}
}

func TestLast(t *testing.T) {
	for _, r := range realms() {
		there := map[int]order.Reply{}
		for _, x := range r.Seen {
			there[x.Client] = x
		}
		for _, client := range []int{-1, 0, 1, 2, 3, 4, 5, 97, 98, 99, 100, 999, 1000, 1001, math.MinInt, math.MaxInt} {
			c := guarded(r)
			got, ok := realm.Last(c, client)
			want, is := there[client]
			if ok != is || !isSameReply(got, want) {
				t.Errorf("Last(%.1000q, %d) = %.500q, %v", fmt.Sprint(r), client, fmt.Sprint(got), ok)
			}
			wantKept(t, r, c)
			wantApart(t, append(placesOf("given", c), placeOf("the reply's Names", got.Names)))
		}
	}
}

func wantSame(t *testing.T, a, b realm.Realm, want bool) {
	t.Helper()
	if isSame(a, b) != want {
		t.Fatalf("%.1000q, %.1000q: the test contradicts itself", fmt.Sprint(a), fmt.Sprint(b))
	}
	if realm.Same(a, b) != want || realm.Same(b, a) != want {
		t.Errorf("Same(%.1000q, %.1000q) is not %v", fmt.Sprint(a), fmt.Sprint(b), want)
	}
}

// variants are realms that differ from mixed, and from each other: in one part alone, in one field, in the order or the number of what is in a list.
func variants() []realm.Realm {
	m := mixed()
	l := []realm.Realm{
		withNodes(m, at("/z")), withoutNodes(m, "/g"), withNodes(m, shelf.Node{Path: "/a", Value: "other", Version: 2}),
		withNodes(m, shelf.Node{Path: "/a", Value: "one", Version: 3}), withNodes(m, shelf.Node{Path: "/a", Value: "one", Version: 2, Owner: 1}),
		withNodes(m, shelf.Node{Path: "/a", Value: "one", Version: -3}), withNodes(m, shelf.Node{Path: "/a", Value: "one", Version: 2, Owner: -2}),
		withNodes(withoutNodes(m, "/g"), shelf.Node{Path: "/h", Version: maxVersion}),
		atTime(m, 11), atTime(m, -11), withoutSessions(m, 4), withSessions(m, lease.Session{Id: 7, Span: 1, Until: 11}), withSessions(m, lease.Session{Id: 4, Span: 6, Until: 14}),
		withSessions(m, lease.Session{Id: 4, Span: 5, Until: 15}), withSessions(withoutSessions(m, 4), lease.Session{Id: 5, Span: 5, Until: 14}),
		withWatches(m, data("/z", 1)), withoutWatches(m, data("/a", 0)), withoutWatches(m, m.Table.L...),
		withReplies(m, order.Reply{Client: 2, Seq: 1}), withReplies(m, order.Reply{Client: 1, Seq: 4, Value: "one", Version: 1, Names: []string{""}}),
	}
	for i, w := range m.Table.L {
		for _, other := range []watch.Watch{data(w.Path+"x", w.Client), data(w.Path, w.Client+20), kids(w.Path, w.Client+20), data(w.Path, -w.Client-1)} {
			r := copied(m)
			r.Table.L[i] = other
			l = append(l, r)
		}
	}
	swapped := copied(m)
	swapped.Table.L[0], swapped.Table.L[1] = swapped.Table.L[1], swapped.Table.L[0]
	l = append(l, swapped)
	for i, x := range m.Seen {
		for _, other := range changedReplies(x) {
			r := copied(m)
			r.Seen[i] = other
			l = append(l, r)
		}
		r := copied(m)
		r.Seen = slices.Delete(r.Seen, i, i+1)
		l = append(l, r)
	}
	reversed := copied(m)
	slices.Reverse(reversed.Seen)
	return append(l, reversed)
}

// changedReplies are replies that differ from x in one field, or in one name.
func changedReplies(x order.Reply) []order.Reply {
	var l []order.Reply
	for _, change := range []func(y *order.Reply){
		func(y *order.Reply) { y.Client += 50 },
		func(y *order.Reply) { y.Seq++ },
		func(y *order.Reply) { y.E = api.ErrKids },
		func(y *order.Reply) { y.Value += "x" },
		func(y *order.Reply) { y.Version++ },
		func(y *order.Reply) { y.Version = -y.Version - 2 },
		func(y *order.Reply) { y.Names = append(y.Names, "x") },
	} {
		y := x
		y.Names = slices.Clone(x.Names)
		change(&y)
		l = append(l, y)
	}
	for i := range x.Names {
		y := x
		y.Names = slices.Clone(x.Names)
		y.Names[i] = "y"
		l = append(l, y)
		y.Names = slices.Delete(slices.Clone(x.Names), i, i+1)
		l = append(l, y)
	}
	return l
}

func TestSame(t *testing.T) {
	all := slices.Concat(realms(), variants(), []realm.Realm{{}})
	for i, a := range all {
		for j, b := range all {
			wantSame(t, copied(a), copied(b), i == j)
		}
		c := guarded(a)
		realm.Same(c, c)
		wantKept(t, a, c)
	}
}

// Nil and empty slices are equivalent.
func TestSameOfEmptyLists(t *testing.T) {
	a, b := realm.New(), realm.New()
	b.Book.L, b.Table.L, b.Seen = []lease.Session{}, []watch.Watch{}, []order.Reply{}
	wantSame(t, a, b, true)
	a.Seen, b.Seen = []order.Reply{{Client: 1, Seq: 1}}, []order.Reply{{Client: 1, Seq: 1, Names: []string{}}}
	wantSame(t, a, b, true)
	b.Seen[0].Names = []string{""}
	wantSame(t, a, b, false)
	wantSame(t, realm.Realm{}, realm.Realm{Shelf: shelf.Shelf{L: []shelf.Node{}}}, true)
	wantSame(t, realm.Realm{}, realm.New(), false)
}
