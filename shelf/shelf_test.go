package shelf_test

import (
	"fmt"
	"math"
	"math/rand/v2"
	"regexp"
	"slices"
	"strings"
	"testing"

	"consistory/api"
	"consistory/shelf"
)

const (
	maxNodes   = 200
	maxVersion = 1_000_000_000
)

var (
	pathForm = regexp.MustCompile(`\A(/|(/[a-z0-9_-]{1,30}){1,8})\z`)

	wrongPaths = []string{"", "a", "//", "/a/", "/A", "/a b", "/a//b", "/.", "/\xff", "a/b", "/" + long(31), "/1/2/3/4/5/6/7/8/9", "/" + long(29) + "/" + long(29) + "/" + long(29) + "/" + long(11)}
	numbers    = []int{math.MinInt, -maxVersion, -2, -1, 0, 1, 2, 7, 8, maxVersion - 1, maxVersion, maxVersion + 1, math.MaxInt}
)

func isPath(s string) bool { return len(s) <= 100 && pathForm.MatchString(s) }

func long(n int) string { return strings.Repeat("a", n) }

func at(p string) shelf.Node { return shelf.Node{Path: p} }

func owned(p string, owner int) shelf.Node { return shelf.Node{Path: p, Owner: owner} }

func shelfOf(l ...shelf.Node) shelf.Shelf { return shelf.Shelf{L: l} }

// key is a text whose bytewise order is the order of the paths.
func key(p string) string { return strings.ReplaceAll(p, "/", "\x00") }

// sorted is the shelf with these nodes in the order of their paths.
func sorted(l ...shelf.Node) shelf.Shelf {
	l = slices.Clone(l)
	slices.SortFunc(l, func(a, b shelf.Node) int { return strings.Compare(key(a.Path), key(b.Path)) })
	return shelf.Shelf{L: l}
}

// wide is a shelf with n nodes: '/', and children of it.
func wide(n int) shelf.Shelf {
	s := shelfOf(at("/"))
	for i := range n - 1 {
		s.L = append(s.L, shelf.Node{Path: fmt.Sprintf("/n%03d", i), Value: fmt.Sprint(i), Version: i})
	}
	return s
}

// tree has nodes of several depths, with and without children, values and owners.
func tree() shelf.Shelf {
	return shelfOf(
		shelf.Node{Path: "/", Value: "root", Version: 3},
		shelf.Node{Path: "/a", Value: "one", Version: 1},
		shelf.Node{Path: "/a/b", Value: "two", Version: 2},
		shelf.Node{Path: "/a/b/c", Value: "three", Version: 4, Owner: 7},
		shelf.Node{Path: "/a/d", Value: "four", Owner: 7},
		shelf.Node{Path: "/a-b", Value: "five", Version: 5},
		shelf.Node{Path: "/ab", Version: 6},
		shelf.Node{Path: "/ab/c", Value: "seven", Version: maxVersion},
		shelf.Node{Path: "/b", Value: "eight", Owner: 8},
		shelf.Node{Path: "/c", Value: "nine", Version: maxVersion - 1, Owner: 7},
	)
}

// guarded is a copy of s with room beyond its length, which guard checks.
func guarded(s shelf.Shelf) shelf.Shelf {
	l := make([]shelf.Node, len(s.L), len(s.L)+3)
	copy(l, s.L)
	for i := range l[:cap(l)][len(l):] {
		l[:cap(l)][len(l)+i] = shelf.Node{Path: "beyond", Version: i}
	}
	return shelf.Shelf{L: l}
}

// guard checks that the guarded copy of s has stayed as it was, and that it shares no memory with the result r.
func guard(t *testing.T, s, copied, r shelf.Shelf) {
	t.Helper()
	kept := slices.Clone(r.L)
	whole := r.L[:cap(r.L)]
	for i := range whole {
		whole[i] = shelf.Node{Path: "overwritten", Value: "x", Version: -5, Owner: -5}
	}
	if !slices.Equal(copied.L, s.L) {
		t.Errorf("the shelf that was given is now %v, was %v", copied.L, s.L)
	}
	for i, n := range copied.L[:cap(copied.L)][len(copied.L):] {
		if n != (shelf.Node{Path: "beyond", Version: i}) {
			t.Errorf("beyond the shelf that was given: %v", n)
		}
	}
	copy(r.L, kept)
}

func create(t *testing.T, s shelf.Shelf, p, value string, owner int) (shelf.Shelf, api.Errno) {
	t.Helper()
	c := guarded(s)
	r, e := shelf.Create(c, p, value, owner)
	guard(t, s, c, r)
	return r, e
}

func set(t *testing.T, s shelf.Shelf, p, value string, version int) (shelf.Shelf, api.Errno) {
	t.Helper()
	c := guarded(s)
	r, e := shelf.Set(c, p, value, version)
	guard(t, s, c, r)
	return r, e
}

func remove(t *testing.T, s shelf.Shelf, p string, version int) (shelf.Shelf, api.Errno) {
	t.Helper()
	c := guarded(s)
	r, e := shelf.Delete(c, p, version)
	guard(t, s, c, r)
	return r, e
}

func drop(t *testing.T, s shelf.Shelf, owner int) (shelf.Shelf, []string) {
	t.Helper()
	c := guarded(s)
	r, l := shelf.Drop(c, owner)
	guard(t, s, c, r)
	return r, l
}

// want checks the result of a change: this shelf, which is valid, and no error.
func want(t *testing.T, what string, got shelf.Shelf, e api.Errno, s shelf.Shelf) {
	t.Helper()
	if e != api.OK || !slices.Equal(got.L, s.L) {
		t.Errorf("%s: %v, %d; not %v", what, got.L, e, s.L)
	}
	if !shelf.Right(got) {
		t.Errorf("%s: %v is not valid", what, got.L)
	}
}

// wantError checks the result of a change with an error: the shelf that was given.
func wantError(t *testing.T, what string, got shelf.Shelf, e, wanted api.Errno, s shelf.Shelf) {
	t.Helper()
	if e != wanted {
		t.Errorf("%s: error %d, not %d", what, e, wanted)
	}
	if !slices.Equal(got.L, s.L) {
		t.Errorf("%s: with error %d, %v, not %v", what, e, got.L, s.L)
	}
}

// with is s with the node n in place of that of its path, or added.
func with(s shelf.Shelf, n shelf.Node) shelf.Shelf {
	return sorted(append(without(s, n.Path).L, n)...)
}

// without is s without the nodes with these paths.
func without(s shelf.Shelf, paths ...string) shelf.Shelf {
	var l []shelf.Node
	for _, n := range s.L {
		if !slices.Contains(paths, n.Path) {
			l = append(l, n)
		}
	}
	return shelf.Shelf{L: l}
}

func TestNew(t *testing.T) {
	s := shelf.New()
	if len(s.L) != 1 || s.L[0] != (shelf.Node{Path: "/"}) || !shelf.Right(s) {
		t.Errorf("%v", s)
	}
	s.L[0].Value = "changed"
	s.L = append(s.L, at("/a"))
	if s := shelf.New(); len(s.L) != 1 || s.L[0] != (shelf.Node{Path: "/"}) {
		t.Errorf("after a change: %v", s)
	}
}

func TestRightOfEachNumberOfNodes(t *testing.T) {
	for _, s := range []shelf.Shelf{{}, {L: []shelf.Node{}}} {
		if shelf.Right(s) {
			t.Errorf("a shelf without a node is valid")
		}
	}
	for n := 1; n <= 300; n++ {
		if got := shelf.Right(wide(n)); got != (n <= maxNodes) {
			t.Errorf("%d nodes: %v", n, got)
		}
	}
	for n, want := range map[int]bool{1: true, 2: true, 199: true, 200: true, 201: false} {
		s := shelfOf(at("/"))
		for i := range n - 1 {
			if i%2 == 0 {
				s.L = append(s.L, at(fmt.Sprintf("/n%03d", i)))
			} else {
				s.L = append(s.L, at(fmt.Sprintf("/n%03d/kid", i-1)))
			}
		}
		if got := shelf.Right(s); got != want {
			t.Errorf("%d nodes on two levels: %v", n, got)
		}
	}
	if shelf.Right(wide(1 << 16)) {
		t.Errorf("65536 nodes are valid")
	}
}

func TestRightOfOrder(t *testing.T) {
	if !shelf.Right(tree()) {
		t.Errorf("the tree is not valid")
	}
	for _, l := range [][]string{
		{"/", "/a", "/a/b", "/a-b"},
		{"/", "/a", "/b"},
		{"/", "/-", "/0", "/_", "/a", "/z"},
		{"/", "/a", "/a/b", "/a/b/c", "/a/c", "/a-b", "/aa"},
		{"/", "/1", "/1/2", "/1/2/3", "/1/2/3/4", "/1/2/3/4/5", "/1/2/3/4/5/6", "/1/2/3/4/5/6/7", "/1/2/3/4/5/6/7/8"},
	} {
		var s shelf.Shelf
		for _, p := range l {
			s.L = append(s.L, at(p))
		}
		if !shelf.Right(s) {
			t.Errorf("%q is not valid", l)
		}
		for i := range l {
			for j := range i {
				o := shelf.Shelf{L: slices.Clone(s.L)}
				o.L[i], o.L[j] = o.L[j], o.L[i]
				if shelf.Right(o) {
					t.Errorf("%q with %d and %d exchanged is valid", l, i, j)
				}
			}
			if o := (shelf.Shelf{L: slices.Insert(slices.Clone(s.L), i, at(l[i]))}); shelf.Right(o) {
				t.Errorf("%q with %d twice is valid", l, i)
			}
		}
		if o := (shelf.Shelf{L: append(slices.Clone(s.L), at("/"))}); shelf.Right(o) {
			t.Errorf("%q with / at the end too is valid", l)
		}
	}
}

func TestRightOfTheRoot(t *testing.T) {
	for _, s := range []shelf.Shelf{
		shelfOf(at("/a")), shelfOf(at("/a"), at("/a/b")), shelfOf(at("/a"), at("/b")), shelfOf(at("")), shelfOf(at("a")), shelfOf(at("//")),
		without(tree(), "/"), without(wide(200), "/"), shelfOf(at(""), at("/")), shelfOf(at("/"), at("/")),
	} {
		if shelf.Right(s) {
			t.Errorf("%v is valid", s.L)
		}
	}
	for _, owner := range numbers {
		for _, s := range []shelf.Shelf{shelfOf(owned("/", owner)), shelfOf(owned("/", owner), at("/a"))} {
			if got := shelf.Right(s); got != (owner == 0) {
				t.Errorf("%v: %v", s.L, got)
			}
		}
	}
}

// Each node of the tree in turn has the path, value, version or owner that decides.
func TestRightOfEachNode(t *testing.T) {
	for i, n := range tree().L {
		wantRight := func(n shelf.Node, want bool) {
			t.Helper()
			s := tree()
			s.L[i] = n
			if got := shelf.Right(s); got != want {
				t.Errorf("node %d: %v: %v", i, n, got)
			}
		}
		for _, p := range wrongPaths {
			m := n
			m.Path = p
			wantRight(m, false)
			m.Path = n.Path + "/"
			wantRight(m, false)
		}
		for _, bytes := range []int{0, 1, 999, 1000, 1001, 1002, 1 << 16} {
			m := n
			m.Value = strings.Repeat("\xff", bytes)
			wantRight(m, bytes <= 1000)
		}
		for _, k := range numbers {
			m := n
			m.Version = k
			wantRight(m, 0 <= k && k <= maxVersion)
		}
		kids := slices.Contains([]string{"/", "/a", "/a/b", "/ab"}, n.Path)
		for _, k := range numbers {
			m := n
			m.Owner = k
			wantRight(m, k == 0 || k > 0 && !kids)
		}
	}
}

func TestRightOfLimits(t *testing.T) {
	for _, k := range []int{-1, 0, 1, maxVersion, maxVersion + 1} {
		for _, s := range []shelf.Shelf{shelfOf(shelf.Node{Path: "/", Version: k}), shelfOf(at("/"), shelf.Node{Path: "/a", Version: k})} {
			if got := shelf.Right(s); got != (k >= 0 && k <= maxVersion) {
				t.Errorf("%v: %v", s.L, got)
			}
		}
	}
	for _, k := range []int{-1, 0, 1} {
		if got := shelf.Right(shelfOf(at("/"), owned("/a", k))); got != (k >= 0) {
			t.Errorf("owner %d: %v", k, got)
		}
	}
	for _, k := range []int{1000, 1001} {
		if got := shelf.Right(shelfOf(shelf.Node{Path: "/", Value: long(k)})); got != (k == 1000) {
			t.Errorf("%d bytes: %v", k, got)
		}
	}
}

func TestRightOfParents(t *testing.T) {
	for _, s := range []shelf.Shelf{
		shelfOf(at("/"), at("/a/b")),
		shelfOf(at("/"), at("/a"), at("/a/b/c")),
		shelfOf(at("/"), at("/a"), at("/ab/c")),
		shelfOf(at("/"), at("/a"), at("/a-b/c")),
		shelfOf(at("/"), at("/b"), at("/b/a"), at("/c/a")),
		shelfOf(at("/"), at("/a"), at("/a/b"), at("/c/d"), at("/e")),
		without(tree(), "/a"), without(tree(), "/a/b"), without(tree(), "/ab"),
	} {
		if shelf.Right(s) {
			t.Errorf("without a parent, %v is valid", s.L)
		}
	}
	for _, owner := range []int{1, 2, 7, math.MaxInt} {
		for _, s := range []shelf.Shelf{
			shelfOf(at("/"), owned("/a", owner), at("/a/b")),
			shelfOf(at("/"), owned("/a", owner), owned("/a/b", owner)),
			shelfOf(at("/"), at("/a"), owned("/a/b", owner), at("/a/b/c")),
			shelfOf(at("/"), at("/a"), owned("/b", owner), at("/b/c"), at("/d")),
			shelfOf(at("/"), at("/a"), at("/a/b"), owned("/a/c", owner), at("/a/c/d")),
		} {
			if shelf.Right(s) {
				t.Errorf("with the owner of a parent, %v is valid", s.L)
			}
		}
		if s := shelfOf(at("/"), at("/a"), at("/a/b"), owned("/a/c", owner), owned("/a-b", owner), owned("/c", owner)); !shelf.Right(s) {
			t.Errorf("%v is not valid", s.L)
		}
	}
}

func TestGet(t *testing.T) {
	for _, s := range []shelf.Shelf{shelf.New(), tree(), wide(2), wide(200)} {
		for _, want := range s.L {
			if n, e := shelf.Get(s, want.Path); n != want || e != api.OK {
				t.Errorf("%q: %v, %d", want.Path, n, e)
			}
		}
	}
	if n, e := shelf.Get(shelf.New(), "/"); n != at("/") || e != api.OK {
		t.Errorf("/: %v, %d", n, e)
	}
}

func wantNoNode(t *testing.T, s shelf.Shelf, p string, want api.Errno) {
	t.Helper()
	if n, e := shelf.Get(s, p); n != (shelf.Node{}) || e != want {
		t.Errorf("Get of %q: %v, %d", p, n, e)
	}
	if l, e := shelf.List(s, p); len(l) != 0 || e != want {
		t.Errorf("List of %q: %q, %d", p, l, e)
	}
}

func TestGetAndListOfNoNode(t *testing.T) {
	for _, s := range []shelf.Shelf{shelf.New(), tree(), wide(200)} {
		for _, p := range wrongPaths {
			wantNoNode(t, s, p, api.ErrName)
		}
		for _, p := range []string{"/z", "/aa", "/a-", "/a/bb", "/a/b/c/d", "/a/c", "/b/a", "/ab/cc", "/ab/c/d", "/-", "/a-b/c", "/1/2/3/4/5/6/7/8", "/" + long(30)} {
			wantNoNode(t, s, p, api.ErrNone)
		}
	}
	wantNoNode(t, shelf.New(), "/a", api.ErrNone)
}

func TestList(t *testing.T) {
	for _, c := range []struct {
		s    shelf.Shelf
		p    string
		last []string
	}{
		{shelf.New(), "/", nil},
		{wide(2), "/", []string{"n000"}},
		{wide(4), "/", []string{"n000", "n001", "n002"}},
		{wide(4), "/n001", nil},
		{tree(), "/", []string{"a", "a-b", "ab", "b", "c"}},
		{tree(), "/a", []string{"b", "d"}},
		{tree(), "/a/b", []string{"c"}},
		{tree(), "/a/b/c", nil},
		{tree(), "/a/d", nil},
		{tree(), "/a-b", nil},
		{tree(), "/ab", []string{"c"}},
		{tree(), "/ab/c", nil},
		{tree(), "/b", nil},
		{tree(), "/c", nil},
		{shelfOf(at("/"), at("/a"), at("/ab"), at("/ab/c")), "/a", nil},
		{shelfOf(at("/"), at("/a"), at("/ab"), at("/ab/c")), "/", []string{"a", "ab"}},
		{shelfOf(at("/"), at("/a"), at("/a/a"), at("/a/a/a"), at("/a/a/a/a")), "/a/a", []string{"a"}},
		{shelfOf(at("/"), at("/a"), at("/a/-"), at("/a/0"), at("/a/0/b"), at("/a/_"), at("/a/b"), at("/a/b/a"), at("/a/b-c"), at("/b")), "/a", []string{"-", "0", "_", "b", "b-c"}},
	} {
		if !shelf.Right(c.s) {
			t.Errorf("%v is not valid", c.s.L)
		}
		if l, e := shelf.List(c.s, c.p); !slices.Equal(l, c.last) || e != api.OK {
			t.Errorf("%q of %v: %q, %d", c.p, c.s.L, l, e)
		}
	}
	if l, e := shelf.List(wide(200), "/"); len(l) != 199 || l[0] != "n000" || l[198] != "n198" || e != api.OK {
		t.Errorf("of 200 nodes: %q, %d", l, e)
	}
}

// What is done to an answer is not to be seen in the next one.
func TestListIsNew(t *testing.T) {
	s := tree()
	l, _ := shelf.List(s, "/a")
	whole := l[:cap(l)]
	for i := range whole {
		whole[i] = "x"
	}
	if l, _ := shelf.List(s, "/a"); !slices.Equal(l, []string{"b", "d"}) || !slices.Equal(s.L, tree().L) {
		t.Errorf("%q, %v", l, s.L)
	}
}

func TestSame(t *testing.T) {
	if !shelf.Same(shelf.Shelf{}, shelf.Shelf{L: []shelf.Node{}}) || shelf.Same(shelf.New(), shelf.Shelf{}) || shelf.Same(shelf.Shelf{}, shelf.New()) {
		t.Errorf("of shelves without a node")
	}
	for _, s := range []shelf.Shelf{shelf.New(), tree(), wide(2), wide(200), wide(300), shelfOf(at("x"), at("x"))} {
		if !shelf.Same(s, s) || !shelf.Same(s, guarded(s)) || !shelf.Same(guarded(s), s) {
			t.Errorf("%v is not the same as itself", s.L)
		}
		for i := range s.L {
			for name, f := range map[string]func(n *shelf.Node){
				"path":            func(n *shelf.Node) { n.Path += "x" },
				"value":           func(n *shelf.Node) { n.Value += "x" },
				"greater version": func(n *shelf.Node) { n.Version++ },
				"less version":    func(n *shelf.Node) { n.Version-- },
				"owner":           func(n *shelf.Node) { n.Owner++ },
			} {
				other := guarded(s)
				f(&other.L[i])
				if shelf.Same(s, other) || shelf.Same(other, s) {
					t.Errorf("%v and %v are the same: %s of %d", s.L, other.L, name, i)
				}
			}
			for _, other := range []shelf.Shelf{{L: slices.Delete(guarded(s).L, i, i+1)}, {L: slices.Insert(guarded(s).L, i, at("/more"))}} {
				if shelf.Same(s, other) || shelf.Same(other, s) {
					t.Errorf("%v and %v are the same", s.L, other.L)
				}
			}
		}
	}
	a := shelfOf(at("/"), shelf.Node{Path: "/a", Value: "x"})
	for _, b := range []shelf.Shelf{shelfOf(shelf.Node{Path: "/a", Value: "x"}, at("/")), shelfOf(at("/"), shelf.Node{Path: "x", Value: "/a"}), shelfOf(shelf.Node{Path: "/", Value: "/a"}, shelf.Node{Value: "x"})} {
		if shelf.Same(a, b) || shelf.Same(b, a) {
			t.Errorf("%v and %v are the same", a.L, b.L)
		}
	}
}

// A node is created at each place of the order.
func TestCreate(t *testing.T) {
	for _, s := range []shelf.Shelf{shelf.New(), tree(), wide(2), wide(100), shelfOf(at("/"), at("/b"), at("/b/b"), at("/d"))} {
		for _, p := range []string{"/-", "/0", "/a-", "/a/a", "/a/b/-", "/a/b/d", "/a/c", "/a/e", "/a-a", "/a-b/c", "/aa", "/ab/-", "/ab/c/d", "/ab-", "/b/a", "/b/b/b", "/b/c", "/c-", "/n000/x", "/n000-", "/n050/x", "/z", "/" + long(30)} {
			parent := p[:strings.LastIndex(p, "/")]
			if parent == "" {
				parent = "/"
			}
			if _, ok := find(s, p); ok {
				continue
			}
			if n, ok := find(s, parent); !ok || n.Owner != 0 {
				continue
			}
			for _, owner := range []int{0, 1, 7, 1 << 40, math.MaxInt} {
				for _, value := range []string{"", "v", "\x00\xff", long(1000)} {
					r, e := create(t, s, p, value, owner)
					want(t, p, r, e, with(s, shelf.Node{Path: p, Value: value, Owner: owner}))
				}
			}
		}
	}
}

func find(s shelf.Shelf, p string) (shelf.Node, bool) {
	i := slices.IndexFunc(s.L, func(n shelf.Node) bool { return n.Path == p })
	if i < 0 {
		return shelf.Node{}, false
	}
	return s.L[i], true
}

func TestCreateOfTheExample(t *testing.T) {
	r, e := create(t, shelf.New(), "/a/b", "", 0)
	wantError(t, "/a/b", r, e, api.ErrNone, shelf.New())
	r, e = create(t, shelf.New(), "/a", "x", 0)
	want(t, "/a", r, e, shelfOf(at("/"), shelf.Node{Path: "/a", Value: "x"}))
	again, e := create(t, r, "/a", "y", 0)
	wantError(t, "/a again", again, e, api.ErrExists, r)
	r, e = create(t, r, "/a/b", "", 3)
	want(t, "/a/b", r, e, shelfOf(at("/"), shelf.Node{Path: "/a", Value: "x"}, owned("/a/b", 3)))
}

func TestCreateAtTheEnds(t *testing.T) {
	s := shelfOf(at("/"), at("/b"), at("/d"))
	for p, l := range map[string][]shelf.Node{
		"/a":   {at("/"), at("/a"), at("/b"), at("/d")},
		"/b/a": {at("/"), at("/b"), at("/b/a"), at("/d")},
		"/b-":  {at("/"), at("/b"), at("/b-"), at("/d")},
		"/c":   {at("/"), at("/b"), at("/c"), at("/d")},
		"/d/a": {at("/"), at("/b"), at("/d"), at("/d/a")},
		"/e":   {at("/"), at("/b"), at("/d"), at("/e")},
	} {
		r, e := create(t, s, p, "", 0)
		want(t, p, r, e, shelf.Shelf{L: l})
	}
}

func TestCreateUntilFull(t *testing.T) {
	s := wide(195)
	for i := range 5 {
		p := fmt.Sprintf("/n%03d/x", i*40)
		r, e := create(t, s, p, "", 0)
		want(t, p, r, e, with(s, at(p)))
		s = r
	}
	for _, p := range []string{"/a", "/n000/y", "/n194", "/z"} {
		r, e := create(t, s, p, "", 0)
		wantError(t, p, r, e, api.ErrFull, s)
	}
	less, _ := remove(t, s, "/n007", -1)
	r, e := create(t, less, "/z", "v", 9)
	want(t, "/z", r, e, with(without(s, "/n007"), shelf.Node{Path: "/z", Value: "v", Owner: 9}))
}

// Every set of errors that can occur at once: the one that the chapter names first.
func TestCreateErrors(t *testing.T) {
	small := shelfOf(at("/"), at("/a"), at("/a/b"), owned("/o", 5), owned("/q", 6))
	full := small
	for i := range 195 {
		full = with(full, at(fmt.Sprintf("/n%03d", i)))
	}
	if len(full.L) != 200 || !shelf.Right(full) || !shelf.Right(small) {
		t.Fatalf("the shelves are not valid")
	}
	paths := map[string]api.Errno{
		"/x": api.OK, "/a/x": api.OK, "/a/b/x": api.OK,
		"/": api.ErrExists, "/a": api.ErrExists, "/a/b": api.ErrExists, "/o": api.ErrExists,
		"/x/y": api.ErrNone, "/a/c/d": api.ErrNone, "/o/x/y": api.ErrNone, "/1/2/3/4/5/6/7/8": api.ErrNone,
		"/o/x": api.ErrKids, "/q/x": api.ErrKids,
	}
	for _, p := range wrongPaths {
		paths[p] = api.ErrName
	}
	for p, named := range paths {
		for _, value := range []string{"", long(1000), long(1001), long(5000)} {
			for _, owner := range []int{0, 5, -1, math.MinInt} {
				for _, s := range []shelf.Shelf{small, full} {
					first := named
					if first == api.OK && len(value) > 1000 {
						first = api.ErrLarge
					}
					if first == api.OK && owner < 0 {
						first = api.ErrArg
					}
					if first == api.OK && len(s.L) == 200 {
						first = api.ErrFull
					}
					what := fmt.Sprintf("create %q, %d bytes, owner %d, %d nodes", p, len(value), owner, len(s.L))
					r, e := create(t, s, p, value, owner)
					if first == api.OK {
						want(t, what, r, e, with(s, shelf.Node{Path: p, Value: value, Owner: owner}))
					} else {
						wantError(t, what, r, e, first, s)
					}
				}
			}
		}
	}
}

func TestSet(t *testing.T) {
	for _, s := range []shelf.Shelf{shelf.New(), tree(), wide(2), wide(200)} {
		for _, n := range s.L {
			if n.Version == maxVersion {
				continue
			}
			for _, value := range []string{"", "new", n.Value, "\x00\xff", long(1000)} {
				changed := shelf.Node{Path: n.Path, Value: value, Version: n.Version + 1, Owner: n.Owner}
				for _, version := range []int{-1, n.Version} {
					r, e := set(t, s, n.Path, value, version)
					want(t, fmt.Sprintf("set %q of version %d", n.Path, version), r, e, with(s, changed))
				}
			}
		}
	}
}

func TestSetAgain(t *testing.T) {
	s := tree()
	for i := range 20 {
		version := i + 1
		if i%3 == 0 {
			version = -1
		}
		r, e := set(t, s, "/a", fmt.Sprint(i), version)
		want(t, "/a", r, e, with(s, shelf.Node{Path: "/a", Value: fmt.Sprint(i), Version: i + 2}))
		s = r
	}
}

// Every set of errors that can occur at once: the one that the chapter names first.
func TestSetErrors(t *testing.T) {
	s := tree()
	paths := map[string]api.Errno{"/z": api.ErrNone, "/a/z": api.ErrNone, "/b/a": api.ErrNone, "/aa": api.ErrNone}
	for _, p := range wrongPaths {
		paths[p] = api.ErrName
	}
	for _, n := range s.L {
		paths[n.Path] = api.OK
	}
	for p, named := range paths {
		n, _ := find(s, p)
		for _, value := range []string{"", long(1000), long(1001), long(5000)} {
			for _, version := range append([]int{n.Version - 1, n.Version, n.Version + 1, 3, 4, 5, 6}, numbers...) {
				first := named
				if first == api.OK && version != -1 && version != n.Version {
					first = api.ErrVersion
				}
				if first == api.OK && len(value) > 1000 {
					first = api.ErrLarge
				}
				if first == api.OK && n.Version == maxVersion {
					first = api.ErrFull
				}
				what := fmt.Sprintf("set %q, %d bytes, version %d", p, len(value), version)
				r, e := set(t, s, p, value, version)
				if first == api.OK {
					want(t, what, r, e, with(s, shelf.Node{Path: p, Value: value, Version: n.Version + 1, Owner: n.Owner}))
				} else {
					wantError(t, what, r, e, first, s)
				}
			}
		}
	}
}

func TestSetAtTheGreatestVersion(t *testing.T) {
	s := shelfOf(at("/"), shelf.Node{Path: "/a", Version: maxVersion - 1})
	r, e := set(t, s, "/a", "last", maxVersion-1)
	want(t, "to 10^9", r, e, shelfOf(at("/"), shelf.Node{Path: "/a", Value: "last", Version: maxVersion}))
	for _, c := range []struct {
		value   string
		version int
		want    api.Errno
	}{
		{"x", -1, api.ErrFull}, {"x", maxVersion, api.ErrFull}, {"last", -1, api.ErrFull},
		{long(1001), -1, api.ErrLarge}, {"x", maxVersion - 1, api.ErrVersion}, {long(1001), 0, api.ErrVersion}, {"x", maxVersion + 1, api.ErrVersion},
	} {
		again, e := set(t, r, "/a", c.value, c.version)
		wantError(t, "beyond 10^9", again, e, c.want, r)
	}
}

// Every set of errors that can occur at once: the one that the chapter names first.
func TestDelete(t *testing.T) {
	for _, s := range []shelf.Shelf{shelf.New(), shelfOf(shelf.Node{Path: "/", Version: 2}), tree(), wide(2), wide(200), shelfOf(at("/"), at("/a"), at("/ab"), at("/ab/c"))} {
		paths := map[string]api.Errno{"/z": api.ErrNone, "/a/z": api.ErrNone, "/b/a": api.ErrNone, "/aa": api.ErrNone}
		for _, p := range wrongPaths {
			paths[p] = api.ErrName
		}
		for _, n := range s.L {
			paths[n.Path] = api.OK
		}
		paths["/"] = api.ErrName
		for p, named := range paths {
			n, _ := find(s, p)
			kids := slices.ContainsFunc(s.L, func(n shelf.Node) bool { return strings.HasPrefix(n.Path, p+"/") })
			for _, version := range append([]int{n.Version - 1, n.Version, n.Version + 1, 3, 4, 5, 6}, numbers...) {
				first := named
				if first == api.OK && version != -1 && version != n.Version {
					first = api.ErrVersion
				}
				if first == api.OK && kids {
					first = api.ErrKids
				}
				what := fmt.Sprintf("delete %q, version %d", p, version)
				r, e := remove(t, s, p, version)
				if first == api.OK {
					want(t, what, r, e, without(s, p))
				} else {
					wantError(t, what, r, e, first, s)
				}
			}
		}
	}
}

func TestDeletedCanBeCreatedAgain(t *testing.T) {
	s := tree()
	for _, p := range []string{"/a/b/c", "/a/d", "/a-b", "/ab/c", "/b", "/c"} {
		n, _ := find(s, p)
		r, e := remove(t, s, p, n.Version)
		want(t, "delete "+p, r, e, without(s, p))
		wantNoNode(t, r, p, api.ErrNone)
		again, e := remove(t, r, p, -1)
		wantError(t, "delete again "+p, again, e, api.ErrNone, r)
		r, e = create(t, r, p, "new", 4)
		want(t, "create again "+p, r, e, with(s, shelf.Node{Path: p, Value: "new", Owner: 4}))
	}
}

func TestDeleteOfAWholeBranch(t *testing.T) {
	s := tree()
	for _, p := range []string{"/a/b/c", "/a/b", "/a/d", "/a"} {
		r, e := remove(t, s, "/a", -1)
		if p != "/a" {
			wantError(t, "/a with children", r, e, api.ErrKids, s)
		}
		r, e = remove(t, s, p, -1)
		want(t, p, r, e, without(s, p))
		s = r
	}
	if len(s.L) != 6 || s.L[1].Path != "/a-b" {
		t.Errorf("%v", s.L)
	}
}

func TestDrop(t *testing.T) {
	for _, c := range []struct {
		s     shelf.Shelf
		owner int
		paths []string
	}{
		{tree(), 7, []string{"/a/b/c", "/a/d", "/c"}},
		{tree(), 8, []string{"/b"}},
		{tree(), 9, nil}, {tree(), 1, nil}, {tree(), math.MaxInt, nil},
		{tree(), 0, nil}, {tree(), -1, nil}, {tree(), -7, nil}, {tree(), math.MinInt, nil},
		{shelf.New(), 0, nil}, {shelf.New(), 1, nil}, {shelf.New(), -1, nil},
		{wide(200), 0, nil}, {wide(200), 1, nil},
		{shelfOf(at("/"), owned("/a", 1)), 1, []string{"/a"}},
		{shelfOf(at("/"), owned("/a", 1), owned("/b", 2), owned("/c", 1)), 1, []string{"/a", "/c"}},
		{shelfOf(at("/"), owned("/a", 1), owned("/b", 2), owned("/c", 1)), 2, []string{"/b"}},
		{shelfOf(at("/"), at("/a"), owned("/a/b", math.MaxInt), owned("/a-b", math.MaxInt)), math.MaxInt, []string{"/a/b", "/a-b"}},
	} {
		r, l := drop(t, c.s, c.owner)
		want(t, fmt.Sprintf("drop of %d", c.owner), r, api.OK, without(c.s, c.paths...))
		if !slices.Equal(l, c.paths) {
			t.Errorf("drop of %d: %q, not %q", c.owner, l, c.paths)
		}
		r, l = drop(t, r, c.owner)
		if len(l) != 0 || !shelf.Same(r, without(c.s, c.paths...)) {
			t.Errorf("second drop of %d: %q", c.owner, l)
		}
	}
}

func TestDropOfAFullShelf(t *testing.T) {
	s := wide(200)
	var paths []string
	for i := range s.L[1:] {
		s.L[i+1].Owner = 3 + i%2
		if i%2 == 0 {
			paths = append(paths, s.L[i+1].Path)
		}
	}
	r, l := drop(t, s, 3)
	want(t, "drop of 3", r, api.OK, without(s, paths...))
	if !slices.Equal(l, paths) {
		t.Errorf("%q", l)
	}
	r, l = drop(t, r, 4)
	if !shelf.Same(r, shelf.New()) || len(l) != 99 {
		t.Errorf("drop of 4: %v, %q", r.L, l)
	}
}

// A shelf that is not valid makes nothing panic.
func TestWrongShelves(t *testing.T) {
	for _, s := range []shelf.Shelf{
		{}, shelfOf(at("")), shelfOf(at("/a")), shelfOf(at("/b"), at("/a"), at("/"), at("x")), wide(300),
		shelfOf(at("/"), at("/a/b"), at("/a/b")), shelfOf(owned("/", 1), owned("/a", 1)), shelfOf(owned("/", -1), owned("/a", -1), at("/a/")),
		shelfOf(shelf.Node{Path: "/", Version: math.MaxInt, Value: long(2000), Owner: math.MinInt}), shelfOf(at("/a/"), at("/a"), at("//")),
	} {
		for _, p := range []string{"/", "/a", "/a/b", "/z", "", "x", "/a/"} {
			for _, k := range numbers {
				create(t, s, p, "v", k)
				set(t, s, p, "v", k)
				remove(t, s, p, k)
				drop(t, s, k)
			}
			shelf.Get(s, p)
			shelf.List(s, p)
		}
	}
}

// step is one change: its kind, a path, a value, and a version or an owner.
type step struct {
	kind        int
	path, value string
	n           int
}

const (
	stepCreate = iota
	stepSet
	stepDelete
	stepDrop
	stepKinds
)

// model is the nodes by their paths.
type model map[string]shelf.Node

func modelOf(s shelf.Shelf) model {
	m := model{}
	for _, n := range s.L {
		m[n.Path] = n
	}
	return m
}

func (m model) shelf() shelf.Shelf {
	var l []shelf.Node
	for _, n := range m {
		l = append(l, n)
	}
	return sorted(l...)
}

func parentOf(p string) string {
	parent := p[:strings.LastIndex(p, "/")]
	if parent == "" {
		return "/"
	}
	return parent
}

func (m model) hasKids(p string) bool {
	for q := range m {
		if q != "/" && parentOf(q) == p {
			return true
		}
	}
	return false
}

// errorOf is the error that the chapter names first for a step.
func (m model) errorOf(c step) api.Errno {
	n, found := m[c.path]
	switch {
	case c.kind == stepDrop:
		return api.OK
	case !isPath(c.path):
		return api.ErrName
	case c.kind == stepCreate:
		if found {
			return api.ErrExists
		}
		parent, found := m[parentOf(c.path)]
		switch {
		case !found:
			return api.ErrNone
		case parent.Owner > 0:
			return api.ErrKids
		case len(c.value) > 1000:
			return api.ErrLarge
		case c.n < 0:
			return api.ErrArg
		case len(m) == 200:
			return api.ErrFull
		}
	case !found:
		return api.ErrNone
	case c.kind == stepDelete && c.path == "/":
		return api.ErrName
	case c.n != -1 && c.n != n.Version:
		return api.ErrVersion
	case c.kind == stepDelete && m.hasKids(c.path):
		return api.ErrKids
	case c.kind == stepSet && len(c.value) > 1000:
		return api.ErrLarge
	case c.kind == stepSet && n.Version == maxVersion:
		return api.ErrFull
	}
	return api.OK
}

// after applies a step without an error, and returns the paths that a drop removes.
func (m model) after(c step) []string {
	switch c.kind {
	case stepCreate:
		m[c.path] = shelf.Node{Path: c.path, Value: c.value, Owner: c.n}
	case stepSet:
		n := m[c.path]
		n.Value, n.Version = c.value, n.Version+1
		m[c.path] = n
	case stepDelete:
		delete(m, c.path)
	case stepDrop:
		var l []string
		for _, n := range m.shelf().L {
			if c.n > 0 && n.Owner == c.n {
				l = append(l, n.Path)
				delete(m, n.Path)
			}
		}
		return l
	}
	return nil
}

// take takes a step and checks it: the error, the own node, all other nodes, the shelf that was given, and that the result is valid.
func take(t *testing.T, s shelf.Shelf, c step) shelf.Shelf {
	t.Helper()
	var r shelf.Shelf
	var e api.Errno
	var dropped []string
	switch c.kind {
	case stepCreate:
		r, e = create(t, s, c.path, c.value, c.n)
	case stepSet:
		r, e = set(t, s, c.path, c.value, c.n)
	case stepDelete:
		r, e = remove(t, s, c.path, c.n)
	case stepDrop:
		r, dropped = drop(t, s, c.n)
	}
	m := modelOf(s)
	if wanted := m.errorOf(c); wanted != api.OK {
		wantError(t, fmt.Sprint(c), r, e, wanted, s)
		return r
	}
	paths := m.after(c)
	want(t, fmt.Sprint(c), r, e, m.shelf())
	if !slices.Equal(paths, dropped) {
		t.Errorf("%v: %q, not %q", c, dropped, paths)
	}
	onlyOwn(t, c, s, r)
	return r
}

// onlyOwn checks by Get that a step changed its own node, or the nodes of its owner, and no other one.
func onlyOwn(t *testing.T, c step, s, r shelf.Shelf) {
	t.Helper()
	for _, l := range [][]shelf.Node{s.L, r.L} {
		for _, n := range l {
			was, e := shelf.Get(s, n.Path)
			is, f := shelf.Get(r, n.Path)
			own := n.Path == c.path && c.kind != stepDrop || c.kind == stepDrop && c.n > 0 && was.Owner == c.n
			if own == (was == is && e == f) {
				t.Errorf("%v: %q was %v, %d and is %v, %d", c, n.Path, was, e, is, f)
			}
		}
	}
}

// randomStep is a step that has no error as often as not.
func randomStep(r *rand.Rand, s shelf.Shelf) step {
	names := []string{"a", "b", "a-b", "ab", "0", "_"}
	n := s.L[r.IntN(len(s.L))]
	c := step{kind: r.IntN(stepKinds), path: n.Path, value: long(r.IntN(4)), n: -1}
	switch {
	case c.kind == stepCreate:
		c.path = strings.TrimSuffix(c.path, "/") + "/" + names[r.IntN(len(names))]
		c.n = max(0, r.IntN(8)-4)
	case c.kind == stepDrop:
		c.n = r.IntN(9) - 2
	case r.IntN(2) == 0:
		c.n = n.Version
	}
	switch r.IntN(12) {
	case 0:
		c.path = wrongPaths[r.IntN(len(wrongPaths))]
	case 1:
		c.path += "/" + names[r.IntN(len(names))]
	case 2:
		c.value = long(999 + r.IntN(3))
	case 3:
		c.n = numbers[r.IntN(len(numbers))]
	}
	return c
}

func TestManyChanges(t *testing.T) {
	for seed := range uint64(40) {
		r := rand.New(rand.NewPCG(seed, 9))
		s := []shelf.Shelf{shelf.New(), tree(), wide(197), wide(30)}[seed%4]
		for range 150 {
			c := randomStep(r, s)
			if c.kind == stepDrop && r.IntN(3) > 0 {
				continue
			}
			s = take(t, s, c)
		}
	}
}

// Each change at each node of several shelves.
func TestEachChangeOfEachNode(t *testing.T) {
	for _, s := range []shelf.Shelf{shelf.New(), tree(), wide(2), wide(40), shelfOf(at("/"), at("/a"), owned("/a/b", 1), at("/a-b"), owned("/b", 2))} {
		for _, n := range s.L {
			for _, p := range []string{n.Path, n.Path + "-", strings.TrimSuffix(n.Path, "/") + "/a", strings.TrimSuffix(n.Path, "/") + "/z"} {
				for _, k := range []int{-1, 0, 1, n.Version, n.Owner} {
					for kind := range stepKinds {
						take(t, s, step{kind, p, "new", k})
					}
				}
			}
		}
	}
}

// isRight is the chapter's definition of a valid shelf, written out.
func isRight(s shelf.Shelf) bool {
	m := modelOf(s)
	if len(s.L) > 200 || len(m) != len(s.L) || !slices.Equal(s.L, m.shelf().L) {
		return false
	}
	if n, found := m["/"]; !found || n.Owner != 0 {
		return false
	}
	for _, n := range s.L {
		if !isPath(n.Path) || len(n.Value) > 1000 || n.Version < 0 || n.Version > maxVersion || n.Owner < 0 {
			return false
		}
		parent, found := m[parentOf(n.Path)]
		if n.Path != "/" && (!found || parent.Owner != 0) {
			return false
		}
	}
	return true
}

// Valid shelves, and the same with one or two faults.
func TestRightOfManyShelves(t *testing.T) {
	r := rand.New(rand.NewPCG(1, 9))
	s := tree()
	right := 0
	for range 3000 {
		if r.IntN(4) == 0 {
			s = take(t, s, randomStep(r, s))
		}
		o := guarded(s)
		for range r.IntN(3) {
			i, j := r.IntN(len(o.L)), r.IntN(len(o.L))
			switch r.IntN(8) {
			case 0:
				o.L[i], o.L[j] = o.L[j], o.L[i]
			case 1:
				o.L[i].Path = o.L[j].Path
			case 2:
				o.L[i].Owner = r.IntN(4) - 1
			case 3:
				o.L[i].Version = numbers[r.IntN(len(numbers))]
			case 4:
				o.L[i].Value = long(999 + r.IntN(3))
			case 5:
				o.L = slices.Insert(o.L, i, at(o.L[j].Path+"/a"))
			case 6:
				o.L = append(slices.Clone(o.L[:i]), o.L[i:]...)
				o.L[i].Path += "a"
			case 7:
				if len(o.L) > 1 {
					o.L = slices.Delete(o.L, i, i+1)
				}
			}
		}
		want := isRight(o)
		if want {
			right++
		}
		if got := shelf.Right(o); got != want {
			t.Fatalf("%v: %v", o.L, got)
		}
	}
	if right < 300 || right > 2700 {
		t.Errorf("%d of 3000 shelves are valid", right)
	}
}

// The same changes of equal shelves lead to equal shelves, and Same tells whether a change had an effect.
func TestSameAfterChanges(t *testing.T) {
	r := rand.New(rand.NewPCG(2, 9))
	a, b := tree(), tree()
	for range 300 {
		c := randomStep(r, a)
		before := a
		a, b = take(t, a, c), take(t, b, c)
		if !shelf.Same(a, b) {
			t.Fatalf("after %v: %v and %v", c, a.L, b.L)
		}
		if got := shelf.Same(before, a); got != slices.Equal(before.L, a.L) {
			t.Errorf("%v: before and after, %v", c, got)
		}
	}
}

func FuzzChanges(f *testing.F) {
	f.Add([]byte{0, 1, 2, 3, 1, 1, 2, 3, 2, 1, 2, 3, 3, 1, 2, 3})
	f.Add([]byte("create, set, delete and drop"))
	f.Fuzz(func(t *testing.T, b []byte) {
		s := tree()
		names := []string{"a", "b", "a-b", "ab", "0", "A"}
		for len(b) >= 4 && len(b) < 4000 {
			p := s.L[int(b[1]>>3)%len(s.L)].Path
			if b[1]%8 > 1 {
				p = strings.TrimSuffix(p, "/") + "/" + names[b[1]%8-2]
			}
			n := int(b[2]>>4) - 1
			if b[2]%16 > 12 {
				n = numbers[int(b[2]>>4)%len(numbers)]
			}
			value := string(b[3:4])
			if b[3] > 250 {
				value = long(int(b[3]) + 748)
			}
			s = take(t, s, step{int(b[0]) % stepKinds, p, value, n})
			b = b[4:]
		}
	})
}

func FuzzRight(f *testing.F) {
	f.Add("/\n/a\n/a/b\n/a-b", 2, 3, 1000)
	f.Add("/\n/a/b", 0, 0, 0)
	f.Add("", -1, -1, 1001)
	f.Fuzz(func(t *testing.T, paths string, version, owner, bytes int) {
		var s shelf.Shelf
		for _, p := range strings.Split(paths, "\n") {
			s.L = append(s.L, at(p))
		}
		last := &s.L[len(s.L)-1]
		last.Version, last.Owner, last.Value = version, owner, long(bytes&0x7ff)
		for _, n := range s.L {
			// The written-out definition knows no parent of a text without a separator.
			if !strings.Contains(n.Path, "/") {
				if shelf.Right(s) {
					t.Errorf("%v is valid", s.L)
				}
				return
			}
		}
		if got := shelf.Right(s); got != isRight(s) {
			t.Errorf("%v: %v", s.L, got)
		}
	})
}
