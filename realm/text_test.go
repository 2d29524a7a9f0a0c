package realm_test

import (
	"bytes"
	"crypto/sha256"
	"fmt"
	"math"
	"math/rand/v2"
	"slices"
	"strings"
	"testing"

	"consistory/api"
	"consistory/lease"
	"consistory/order"
	"consistory/realm"
	"consistory/shelf"
	"consistory/watch"
)

// number is the encoding of a number without a sign, by the chapter of package octet.
func number(n uint64) []byte {
	var digits []byte
	for ; n > 0; n /= 256 {
		digits = append([]byte{byte(n % 256)}, digits...)
	}
	return append([]byte{byte(len(digits))}, digits...)
}

func signed(n int) []byte {
	if n < 0 {
		return number(uint64(-(n+1))*2 + 1)
	}
	return number(uint64(n) * 2)
}

func texted(s string) []byte { return append(number(uint64(len(s))), s...) }

// encoded is the chapter's encoding of a realm, written out: its numbers and texts, one behind the other.
func encoded(r realm.Realm) []byte {
	var b []byte
	add := func(l ...any) {
		for _, x := range l {
			switch x := x.(type) {
			case int:
				b = append(b, signed(x)...)
			case string:
				b = append(b, texted(x)...)
			}
		}
	}
	add(len(r.Shelf.L))
	for _, n := range r.Shelf.L {
		add(n.Path, n.Value, n.Version, n.Owner)
	}
	add(r.Book.Now, len(r.Book.L))
	for _, s := range r.Book.L {
		add(s.Id, s.Span, s.Until)
	}
	add(len(r.Table.L))
	for _, w := range r.Table.L {
		add(w.Path, w.Client, map[bool]int{false: 0, true: 1}[w.Kids])
	}
	add(len(r.Seen))
	for _, x := range r.Seen {
		add(x.Client, x.Seq, int(x.E), x.Version, x.Value)
		b = append(b, number(uint64(len(x.Names)))...)
		for _, s := range x.Names {
			add(s)
		}
	}
	return b
}

// wantText checks Text and Digest of a realm, which must leave it and return memory of their own.
func wantText(t *testing.T, r realm.Realm, want []byte) {
	t.Helper()
	c := guarded(r)
	got, again := realm.Text(c), realm.Text(c)
	if !bytes.Equal(got, want) || !bytes.Equal(again, want) {
		t.Errorf("Text(%.1000q) = %.2000x, %.2000x, not %.2000x", fmt.Sprint(r), got, again, want)
	}
	wantApart(t, []place{placeOf("Text", got), placeOf("Text again", again)})
	if realm.Digest(c) != sha256.Sum256(want) {
		t.Errorf("Digest(%.1000q) is not the hash of the encoding", fmt.Sprint(r))
	}
	wantKept(t, r, c)
}

// Written out byte by byte.
func TestTextWrittenOut(t *testing.T) {
	wantText(t, realm.New(), []byte{1, 2, 1, 1, '/', 0, 0, 0, 0, 0, 0, 0})
	r := realm.Realm{
		Shelf: shelf.Shelf{L: []shelf.Node{{Path: "/", Value: "v", Version: 3}, {Path: "/a", Owner: 4}}},
		Book:  lease.Book{Now: 300, L: []lease.Session{{Id: 4, Span: 5, Until: 303}, {Id: 256, Span: 1000, Until: 1000}}},
		Table: watch.Table{L: []watch.Watch{data("/a", 7), kids("/", 0)}},
		Seen:  []order.Reply{{Client: 1, Seq: 2, E: api.ErrNone}, {Client: 1000, Seq: maxSeq, Value: "xy", Version: 5, Names: []string{"b", ""}}},
	}
	wantRight(t, r, true)
	want := slices.Concat(
		// Two nodes.
		[]byte{1, 4},
		[]byte{1, 1, '/', 1, 1, 'v', 1, 6, 0},
		[]byte{1, 2, '/', 'a', 0, 0, 1, 8},
		// The time, and two sessions.
		[]byte{2, 0x02, 0x58},
		[]byte{1, 4},
		[]byte{1, 8, 1, 10, 2, 0x02, 0x5e},
		[]byte{2, 0x02, 0x00, 2, 0x07, 0xd0, 2, 0x07, 0xd0},
		// Two watches.
		[]byte{1, 4},
		[]byte{1, 2, '/', 'a', 1, 14, 0},
		[]byte{1, 1, '/', 0, 1, 2},
		// Two replies: Client, Seq, E, Version, Value, Names.
		[]byte{1, 4},
		[]byte{1, 2, 1, 4, 1, 12, 0, 0, 0},
		[]byte{2, 0x07, 0xd0, 4, 0x77, 0x35, 0x94, 0x00, 0, 1, 10, 1, 2, 'x', 'y', 1, 2, 1, 1, 'b', 0},
	)
	wantText(t, r, want)
	if !bytes.Equal(encoded(r), want) {
		t.Fatalf("the test contradicts itself")
	}
}

// Negative numbers where valid realms have none.
func TestTextOfNegativeNumbers(t *testing.T) {
	r := realm.Realm{
		Shelf: shelf.Shelf{L: []shelf.Node{{Path: "x", Version: -1, Owner: -2}}},
		Book:  lease.Book{Now: -300, L: []lease.Session{{Id: -1, Span: -2, Until: -3}}},
		Table: watch.Table{L: []watch.Watch{kids("", -1)}},
		Seen:  []order.Reply{{Client: -1, Seq: -2, E: -3, Version: -4}},
	}
	wantText(t, r, slices.Concat(
		[]byte{1, 2, 1, 1, 'x', 0, 1, 1, 1, 3},
		[]byte{2, 0x02, 0x57, 1, 2, 1, 1, 1, 3, 1, 5},
		[]byte{1, 2, 0, 1, 1, 1, 2},
		[]byte{1, 2, 1, 1, 1, 3, 1, 5, 1, 7, 0, 0},
	))
	wantText(t, realm.Realm{}, []byte{0, 0, 0, 0, 0})
}

// strange are realms that are not valid: Text and Digest accept them, and Same and Right too.
func strange() []realm.Realm {
	l := []realm.Realm{
		{}, {Shelf: shelf.Shelf{L: []shelf.Node{{}}}}, {Book: lease.Book{L: []lease.Session{{}}}}, {Table: watch.Table{L: []watch.Watch{{}}}}, {Seen: []order.Reply{{}}},
		{Shelf: shelf.Shelf{L: []shelf.Node{{Path: long(70000), Value: "\xff\x00", Version: math.MinInt, Owner: math.MaxInt}}}}, {Shelf: shelf.Shelf{L: make([]shelf.Node, 300)}},
		{Book: lease.Book{Now: math.MinInt, L: slices.Repeat([]lease.Session{{Id: math.MinInt, Span: math.MaxInt, Until: math.MinInt}}, 60)}},
		{Table: watch.Table{L: slices.Repeat([]watch.Watch{kids("\x00", math.MinInt)}, 300)}},
		{Seen: slices.Repeat([]order.Reply{{Client: math.MaxInt, Seq: math.MinInt, E: math.MinInt, Value: long(5000), Version: math.MaxInt, Names: slices.Repeat([]string{long(2000), ""}, 5)}}, 60)},
	}
	for _, s := range badShelves() {
		l = append(l, realm.Realm{Shelf: s, Seen: []order.Reply{{Client: 5}}})
	}
	for _, b := range badBooks() {
		l = append(l, realm.Realm{Book: b, Seen: []order.Reply{{Client: 6}}})
	}
	for _, w := range badTables() {
		l = append(l, realm.Realm{Table: w, Seen: []order.Reply{{Client: 7}}})
	}
	for _, seen := range badSeen() {
		l = append(l, realm.Realm{Shelf: shelf.New(), Seen: seen})
	}
	return l
}

// alike are realms whose encodings have many parts in common: only where the parts belong, or are cut, differs.
func alike() []realm.Realm {
	nodes := func(l ...string) realm.Realm {
		var r realm.Realm
		for i := 0; i < len(l); i += 2 {
			r.Shelf.L = append(r.Shelf.L, shelf.Node{Path: l[i], Value: l[i+1]})
		}
		return r
	}
	seen := func(l ...order.Reply) realm.Realm { return realm.Realm{Seen: l} }
	return []realm.Realm{
		nodes("a", "b"), nodes("ab", ""), nodes("", "ab"), nodes("a", "b", "", ""), nodes("a", "", "b", ""), nodes("", "a", "b", ""), nodes("a\x01\x01b", ""), nodes("b", "a"),
		withNodes(realm.New(), owned("/a", 1)), withNodes(realm.New(), shelf.Node{Path: "/a", Version: 1}), withNodes(realm.New(), at("/a")),
		atTime(realm.Realm{}, 1), {Table: watch.Table{L: []watch.Watch{{Client: 1}}}}, {Table: watch.Table{L: []watch.Watch{{Client: 2}}}}, {Table: watch.Table{L: []watch.Watch{{Kids: true}}}},
		seen(order.Reply{Client: 1}), seen(order.Reply{Seq: 1}), seen(order.Reply{E: 1}), seen(order.Reply{Version: 1}), seen(order.Reply{Value: "a"}), seen(order.Reply{Names: []string{"a"}}),
		seen(order.Reply{Names: []string{"", ""}}), seen(order.Reply{Names: []string{"ab", "c"}}), seen(order.Reply{Names: []string{"a", "bc"}}), seen(order.Reply{Names: []string{"c", "ab"}}),
		seen(order.Reply{Client: 1}, order.Reply{Seq: 1}), seen(order.Reply{Seq: 1}, order.Reply{Client: 1}),
	}
}

func TestTextOfEachRealm(t *testing.T) {
	for _, r := range slices.Concat(realms(), variants(), alike(), strange()) {
		wantText(t, r, encoded(r))
	}
}

// Two realms have the same Text just if they are equal, and so the same Digest.
func TestTextsDiffer(t *testing.T) {
	all := slices.Concat(realms(), variants(), alike(), strange())
	var texts [][]byte
	var digests []api.Hash
	for _, r := range all {
		texts, digests = append(texts, realm.Text(r)), append(digests, realm.Digest(copied(r)))
	}
	for i, a := range all {
		for j, b := range all {
			same := isSame(a, b)
			if same != realm.Same(a, b) || same != bytes.Equal(texts[i], texts[j]) || same != (digests[i] == digests[j]) {
				t.Errorf("%.1000q, %.1000q: equal is %v, the same Text %v", fmt.Sprint(a), fmt.Sprint(b), same, bytes.Equal(texts[i], texts[j]))
			}
		}
	}
}

// Nil and empty slices have the same Text.
func TestTextOfEmptyLists(t *testing.T) {
	empty := realm.Realm{Shelf: shelf.Shelf{L: []shelf.Node{}}, Book: lease.Book{L: []lease.Session{}}, Table: watch.Table{L: []watch.Watch{}}, Seen: []order.Reply{}}
	wantText(t, empty, realm.Text(realm.Realm{}))
	wantText(t, realm.Realm{Seen: []order.Reply{{Names: []string{}}}}, realm.Text(realm.Realm{Seen: []order.Reply{{}}}))
}

// randomRealm is a realm of few and small parts, so that many are equal; it need not be valid.
func randomRealm(r *rand.Rand) realm.Realm {
	text := func() string { return strings.Repeat("a", r.IntN(2)) + strings.Repeat("\x00", r.IntN(2)) }
	var m realm.Realm
	for range r.IntN(2) {
		m.Shelf.L = append(m.Shelf.L, shelf.Node{Path: text(), Value: text(), Version: r.IntN(2), Owner: r.IntN(2)})
	}
	m.Book.Now = r.IntN(2)
	for range r.IntN(2) {
		m.Book.L = append(m.Book.L, lease.Session{Id: r.IntN(2), Span: r.IntN(2), Until: r.IntN(2)})
	}
	for range r.IntN(2) {
		m.Table.L = append(m.Table.L, watch.Watch{Path: text(), Client: r.IntN(2), Kids: r.IntN(2) == 1})
	}
	for range r.IntN(2) {
		x := order.Reply{Client: r.IntN(2), Seq: r.IntN(2), E: api.Errno(r.IntN(2)), Value: text()}
		for range r.IntN(2) {
			x.Names = append(x.Names, text())
		}
		m.Seen = append(m.Seen, x)
	}
	return m
}

func TestTextsOfManyRealms(t *testing.T) {
	r := rand.New(rand.NewPCG(13, 1))
	texts := map[string]realm.Realm{}
	equals := 0
	for range 20000 {
		m := randomRealm(r)
		text := string(realm.Text(m))
		if other, there := texts[text]; there {
			equals++
			wantSame(t, m, other, true)
		}
		other := randomRealm(r)
		if same := text == string(realm.Text(other)); same != realm.Same(m, other) || same != (realm.Digest(m) == realm.Digest(other)) {
			t.Errorf("%.1000q, %.1000q: Same is %v, and the same Text %v", fmt.Sprint(m), fmt.Sprint(other), realm.Same(m, other), same)
		}
		texts[text] = m
	}
	if equals < 1000 {
		t.Errorf("only %d are equal", equals)
	}
}
