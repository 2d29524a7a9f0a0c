package watch_test

import (
	"fmt"
	"math"
	"math/rand/v2"
	"regexp"
	"slices"
	"strings"
	"testing"

	"consistory/api"
	"consistory/watch"
)

const (
	created = 1
	set     = 2
	deleted = 3

	maxWatches = 200
)

var (
	pathForm = regexp.MustCompile(`\A(/|(/[a-z0-9_-]{1,30}){1,8})\z`)

	rightPaths   = []string{"/", "/a", "/b", "/a/b", "/a-b", "/ab", "/a/b/c", "/-/_/0", "/1/2/3/4/5/6/7/8", "/" + long(30), pathOfBytes(99), pathOfBytes(100)}
	wrongPaths   = []string{"", "a", "a/b", "/a/", "/a/b/", "//", "//a", "/a//b", "/A", "/a b", "/.", "/a/..", "/\xff", "/a\x00", "/" + long(31), "/1/2/3/4/5/6/7/8/9", pathOfBytes(101), "/" + long(1<<16), strings.Repeat("/a", 1<<15)}
	rightClients = []int{0, 1, 2, 1000, 1001, 1 << 32, math.MaxInt - 1, math.MaxInt}
	wrongClients = []int{-1, -2, -1000, -1 << 32, math.MinInt + 1, math.MinInt}
	wrongKinds   = []int{0, -1, -2, -3, 4, 5, 6, 7, 10, 257, 258, 259, 1<<32 + 1, 1<<32 + 2, 1<<32 + 3, math.MinInt, math.MinInt + 1, math.MaxInt}
)

func isPath(s string) bool { return len(s) <= 100 && pathForm.MatchString(s) }

func long(n int) string { return strings.Repeat("a", n) }

// pathOfBytes is a text of n bytes with 4 names, which is a path if it is not too long.
func pathOfBytes(n int) string {
	return "/" + long(30) + "/" + long(30) + "/" + long(30) + "/" + long(n-94)
}

func data(p string, client int) watch.Watch { return watch.Watch{Path: p, Client: client} }

func kids(p string, client int) watch.Watch { return watch.Watch{Path: p, Client: client, Kids: true} }

func change(kind int, p string) watch.Change { return watch.Change{Kind: kind, Path: p} }

func event(c watch.Change, w watch.Watch) watch.Event { return watch.Event{W: w, C: c} }

func tableOf(l ...watch.Watch) watch.Table { return watch.Table{L: l} }

// full is a table with n different watches, of which some have the same path, and some the same client.
func full(n int) watch.Table {
	var t watch.Table
	for i := range n {
		t.L = append(t.L, watch.Watch{Path: fmt.Sprintf("/n%d", i%20), Client: i / 40, Kids: i/20%2 == 1})
	}
	return t
}

// mixed is a table whose watches several changes trigger.
func mixed() watch.Table {
	return tableOf(data("/a", 1), kids("/a", 1), kids("/", 2), data("/a", 0), data("/a/b", 1), kids("/a/b", 3), kids("/a", 0), data("/", 1), data("/b", 2), kids("/b", 2), data("/a-b", 1), kids("/", 1))
}

// touches is the chapter's definition of a change that triggers a watch, written out over texts.
func touches(c watch.Change, w watch.Watch) bool {
	if c.Kind != created && c.Kind != set && c.Kind != deleted || !isPath(c.Path) {
		return false
	}
	if !w.Kids {
		return w.Path == c.Path
	}
	if c.Kind == set || c.Path == "/" {
		return false
	}
	parent := c.Path[:strings.LastIndexByte(c.Path, '/')]
	if parent == "" {
		parent = "/"
	}
	return w.Path == parent
}

// isRight is the chapter's definition of a valid table, written out.
func isRight(t watch.Table) bool {
	different := map[watch.Watch]int{}
	right := len(t.L) <= 200
	for _, w := range t.L {
		different[w]++
		right = right && isPath(w.Path) && w.Client >= 0 && different[w] == 1
	}
	return right
}

// with is t with the watch w in place of that at i.
func with(t watch.Table, i int, w watch.Watch) watch.Table {
	l := slices.Clone(t.L)
	l[i] = w
	return watch.Table{L: l}
}

// without is t without these watches.
func without(t watch.Table, l ...watch.Watch) watch.Table {
	var r watch.Table
	for _, w := range t.L {
		if !slices.Contains(l, w) {
			r.L = append(r.L, w)
		}
	}
	return r
}

// guarded is a copy of t with room beyond its length, which guard checks.
func guarded(t watch.Table) watch.Table {
	l := make([]watch.Watch, len(t.L), len(t.L)+3)
	copy(l, t.L)
	for i := range l[:cap(l)][len(l):] {
		l[:cap(l)][len(l)+i] = watch.Watch{Path: "beyond", Client: i}
	}
	return watch.Table{L: l}
}

// wantKept checks that the guarded copy of t has stayed as it was.
func wantKept(t *testing.T, given, copied watch.Table) {
	t.Helper()
	if !slices.Equal(copied.L, given.L) {
		t.Errorf("the table that was given is now %v, was %v", copied.L, given.L)
	}
	for i, w := range copied.L[:cap(copied.L)][len(copied.L):] {
		if w != (watch.Watch{Path: "beyond", Client: i}) {
			t.Errorf("beyond the table that was given: %v", w)
		}
	}
}

// guard checks that the guarded copy has stayed as it was, and that it shares no memory with the result r.
func guard(t *testing.T, given, copied, r watch.Table) {
	t.Helper()
	kept := slices.Clone(r.L)
	whole := r.L[:cap(r.L)]
	for i := range whole {
		whole[i] = watch.Watch{Path: "overwritten", Client: -6}
	}
	wantKept(t, given, copied)
	copy(r.L, kept)
}

func add(t *testing.T, given watch.Table, w watch.Watch) (watch.Table, api.Errno) {
	t.Helper()
	c := guarded(given)
	r, e := watch.Add(c, w)
	guard(t, given, c, r)
	return r, e
}

func cancel(t *testing.T, given watch.Table, client int) watch.Table {
	t.Helper()
	c := guarded(given)
	r := watch.Cancel(c, client)
	guard(t, given, c, r)
	return r
}

func fire(t *testing.T, given watch.Table, l []watch.Change) (watch.Table, []watch.Event) {
	t.Helper()
	c := guarded(given)
	changes := append(make([]watch.Change, 0, len(l)+2), l...)
	changes[:len(l)+1][len(l)] = change(deleted, "/beyond")
	r, events := watch.Fire(c, changes)
	guard(t, given, c, r)
	if !slices.Equal(changes, l) || changes[:len(l)+1][len(l)] != change(deleted, "/beyond") {
		t.Errorf("the changes that were given are now %v, were %v", changes, l)
	}
	return r, events
}

func wantRight(t *testing.T, given watch.Table, want bool) {
	t.Helper()
	if got := watch.Right(given); got != want {
		t.Errorf("Right(%.1000s) = %v", fmt.Sprint(given.L), got)
	}
}

// wantTable checks that this table is the result, and that it is valid.
func wantTable(t *testing.T, what string, got, want watch.Table) {
	t.Helper()
	if !slices.Equal(got.L, want.L) {
		t.Errorf("%s: %v, not %v", what, got.L, want.L)
	}
	wantRight(t, got, true)
}

// wantAdd checks one Add: this error, and the table with the watch behind, or as it was given if it is there or there is an error.
func wantAdd(t *testing.T, given watch.Table, w watch.Watch, wanted api.Errno) watch.Table {
	t.Helper()
	r, e := add(t, given, w)
	if e != wanted {
		t.Errorf("Add of %.200s to %d watches: error %d, not %d", fmt.Sprint(w), len(given.L), e, wanted)
	}
	want := given
	if wanted == api.OK && !slices.Contains(given.L, w) {
		want = tableOf(append(slices.Clone(given.L), w)...)
	}
	wantTable(t, fmt.Sprintf("Add of %.200s", fmt.Sprint(w)), r, want)
	return r
}

// wantTouches checks Touches of one change and one watch against the definition, and for several clients.
func wantTouches(t *testing.T, c watch.Change, w watch.Watch, want bool) {
	t.Helper()
	if touches(c, w) != want {
		t.Fatalf("%v and %v: the test contradicts itself", c, w)
	}
	for _, client := range []int{w.Client, 0, 7, math.MaxInt} {
		w.Client = client
		if got := watch.Touches(c, w); got != want {
			t.Errorf("Touches(%.200s, %.200s) = %v", fmt.Sprint(c), fmt.Sprint(w), got)
		}
	}
}

// wantFire checks one Fire: these events, and the other watches stay.
func wantFire(t *testing.T, given watch.Table, l []watch.Change, wanted ...watch.Event) watch.Table {
	t.Helper()
	r, events := fire(t, given, l)
	var gone []watch.Watch
	for _, e := range wanted {
		gone = append(gone, e.W)
	}
	wantTable(t, fmt.Sprintf("Fire of %v", l), r, without(given, gone...))
	if !slices.Equal(events, wanted) {
		t.Errorf("Fire of %v: events %v, not %v", l, events, wanted)
	}
	return r
}

func wantSame(t *testing.T, a, b watch.Table, want bool) {
	t.Helper()
	c, d := guarded(a), guarded(b)
	if watch.Same(c, d) != want || watch.Same(d, c) != want {
		t.Errorf("Same(%.500s, %.500s) is not %v", fmt.Sprint(a.L), fmt.Sprint(b.L), want)
	}
	wantKept(t, a, c)
	wantKept(t, b, d)
}

func TestRightOfEachNumberOfWatches(t *testing.T) {
	wantRight(t, watch.Table{}, true)
	wantRight(t, watch.Table{L: []watch.Watch{}}, true)
	for n := range 300 {
		wantRight(t, full(n), n <= 200)
	}
	for n, want := range map[int]bool{0: true, 1: true, 199: true, 200: true, 201: false, 256: false, 400: false, 1 << 16: false} {
		var ofClients, ofPaths watch.Table
		for i := range n {
			ofClients.L = append(ofClients.L, kids("/", i))
			ofPaths.L = append(ofPaths.L, data(fmt.Sprintf("/%d", i), 0))
		}
		wantRight(t, ofClients, want)
		wantRight(t, ofPaths, want)
	}
}

func TestRightOfAWatchTwice(t *testing.T) {
	for _, n := range []int{2, 3, 4, 200} {
		good := full(n)
		wantRight(t, good, true)
		for i := range n {
			for j := range n {
				if i != j {
					wantRight(t, with(good, i, good.L[j]), false)
				}
			}
		}
	}
	for _, w := range []watch.Watch{data("/", 0), kids("/", 0), data("/a/b", 7), kids("/a/b", math.MaxInt)} {
		wantRight(t, tableOf(w), true)
		wantRight(t, tableOf(w, w), false)
		wantRight(t, tableOf(w, w, w), false)
		wantRight(t, tableOf(w, data("/x", 0), w), false)
		wantRight(t, tableOf(data("/x", 0), w, kids("/x", 0), w), false)
	}
}

func TestRightOfTwoThatDiffer(t *testing.T) {
	for _, pair := range [][2]watch.Watch{
		{data("/a", 1), data("/b", 1)}, {kids("/a", 1), kids("/b", 1)}, {data("/", 0), data("/a", 0)}, {data("/a", 1), data("/a/a", 1)}, {kids("/a", 1), kids("/aa", 1)},
		{data("/a", 1), data("/a", 2)}, {kids("/a", 1), kids("/a", 0)}, {data("/", math.MaxInt), data("/", 0)}, {kids("/", 1), kids("/", 1<<32+1)},
		{data("/a", 1), kids("/a", 1)}, {kids("/a", 1), data("/a", 1)}, {data("/", 0), kids("/", 0)},
		{data("/a", 1), kids("/b", 2)}, {kids("/b", 1), data("/a", 2)},
	} {
		wantRight(t, tableOf(pair[0], pair[1]), true)
		wantRight(t, tableOf(pair[1], pair[0]), true)
		wantRight(t, tableOf(pair[0], data("/x", 5), kids("/x", 5), pair[1]), true)
	}
}

func TestRightOfPaths(t *testing.T) {
	for _, p := range rightPaths {
		wantRight(t, tableOf(data(p, 0)), true)
		wantRight(t, tableOf(kids(p, 7)), true)
		wantRight(t, tableOf(data(p, 7), data("/x", 7), kids(p, 7)), true)
	}
	for _, p := range wrongPaths {
		wantRight(t, tableOf(data(p, 0)), false)
		wantRight(t, tableOf(kids(p, 7)), false)
		wantRight(t, tableOf(data("/", 7), kids(p, 7)), false)
		wantRight(t, tableOf(data(p, 7), kids("/", 7)), false)
	}
}

func TestRightOfClients(t *testing.T) {
	for _, p := range []string{"/", "/a", "/a/b"} {
		for _, client := range rightClients {
			wantRight(t, tableOf(data(p, client)), true)
			wantRight(t, tableOf(kids(p, client)), true)
		}
		for _, client := range wrongClients {
			wantRight(t, tableOf(data(p, client)), false)
			wantRight(t, tableOf(kids(p, client)), false)
		}
	}
	for client := -300; client <= 300; client++ {
		wantRight(t, tableOf(data("/a", client)), client >= 0)
	}
}

// One bad watch at each place among good ones.
func TestRightOfOneBadWatch(t *testing.T) {
	for _, n := range []int{1, 2, 3, 5, 199, 200} {
		good := full(n)
		for i, w := range good.L {
			for _, client := range wrongClients {
				wantRight(t, with(good, i, watch.Watch{Path: w.Path, Client: client, Kids: w.Kids}), false)
			}
			for _, p := range wrongPaths[:len(wrongPaths)-2] {
				wantRight(t, with(good, i, watch.Watch{Path: p, Client: w.Client, Kids: w.Kids}), false)
			}
			wantRight(t, with(good, i, watch.Watch{}), false)
			wantRight(t, with(good, i, watch.Watch{Path: "/other", Client: w.Client, Kids: w.Kids}), true)
		}
	}
}

func TestAdd(t *testing.T) {
	for _, given := range []watch.Table{{}, {L: []watch.Watch{}}, full(1), full(2), full(50), full(198), full(199), mixed()} {
		for _, p := range append(rightPaths, "/other") {
			for _, client := range rightClients {
				wantAdd(t, given, data(p, client), api.OK)
				wantAdd(t, given, kids(p, client), api.OK)
			}
		}
	}
}

func TestAddOneByOne(t *testing.T) {
	var given watch.Table
	all := full(300)
	for i, w := range all.L[:maxWatches] {
		given = wantAdd(t, given, w, api.OK)
		if len(given.L) != i+1 {
			t.Fatalf("%d watches, not %d", len(given.L), i+1)
		}
		given = wantAdd(t, given, w, api.OK)
		given = wantAdd(t, given, all.L[i/2], api.OK)
	}
	for _, w := range all.L[maxWatches:] {
		given = wantAdd(t, given, w, api.ErrFull)
	}
	wantTable(t, "one by one", given, full(maxWatches))
}

// A watch that is there, at each place.
func TestAddWhatIsThere(t *testing.T) {
	for _, n := range []int{1, 2, 3, 199, 200} {
		given := full(n)
		for _, w := range given.L {
			wantAdd(t, given, w, api.OK)
		}
	}
	for _, w := range mixed().L {
		wantAdd(t, mixed(), w, api.OK)
	}
}

// A watch that differs from one that is there in one field alone is another one.
func TestAddWhatDiffers(t *testing.T) {
	for _, there := range []watch.Watch{data("/a", 1), kids("/a", 1)} {
		for _, n := range []int{0, 1, 198, 199} {
			given := tableOf(append([]watch.Watch{there}, full(n).L...)...)
			wanted := api.OK
			if n == 199 {
				wanted = api.ErrFull
			}
			for _, w := range []watch.Watch{{Path: "/b", Client: 1, Kids: there.Kids}, {Path: "/a", Client: 2, Kids: there.Kids}, {Path: "/a", Client: 1, Kids: !there.Kids}} {
				wantAdd(t, given, w, wanted)
			}
			wantAdd(t, given, there, api.OK)
		}
	}
}

func TestAddErrors(t *testing.T) {
	for _, given := range []watch.Table{{}, full(1), full(7), full(199), full(200), mixed()} {
		isFull := len(given.L) == maxWatches
		for _, ofKids := range []bool{false, true} {
			for _, p := range wrongPaths {
				for _, client := range append(rightClients, wrongClients...) {
					wantAdd(t, given, watch.Watch{Path: p, Client: client, Kids: ofKids}, api.ErrName)
				}
			}
			for _, p := range append(rightPaths, "/n0", "/n1") {
				for _, client := range wrongClients {
					wantAdd(t, given, watch.Watch{Path: p, Client: client, Kids: ofKids}, api.ErrArg)
				}
				if isFull {
					wantAdd(t, given, watch.Watch{Path: p, Client: 1000, Kids: ofKids}, api.ErrFull)
				}
			}
		}
	}
}

// Every set of errors that can occur at once: the first one is returned.
func TestAddOfSeveralErrors(t *testing.T) {
	for bits := range 16 {
		badName, badArg, there, isFull := bits&1 != 0, bits&2 != 0, bits&4 != 0, bits&8 != 0
		if there && (badName || badArg) {
			continue // not in a valid table
		}
		w, given, wanted := kids("/new", 3), full(7), api.OK
		if isFull {
			given, wanted = full(200), api.ErrFull
		}
		if there {
			w, wanted = given.L[len(given.L)/2], api.OK
		}
		if badArg {
			w.Client, wanted = -1, api.ErrArg
		}
		if badName {
			w.Path, wanted = "/new/", api.ErrName
		}
		wantAdd(t, given, w, wanted)
	}
}

// The relations that the chapter names, one by one.
func TestTouches(t *testing.T) {
	for _, c := range []struct {
		watched, changed string
		equal, child     bool
	}{
		{"/a", "/a", true, false}, {"/a", "/", false, false}, {"/a", "/a/b", false, true}, {"/a", "/a/b/c", false, false}, {"/a", "/a/a", false, true},
		{"/a", "/ab", false, false}, {"/a", "/a-b", false, false}, {"/a", "/a_", false, false}, {"/a", "/aa", false, false}, {"/a", "/ab/c", false, false}, {"/a", "/a-b/c", false, false}, {"/ab", "/a", false, false}, {"/ab", "/a/b", false, false},
		{"/a", "/b", false, false}, {"/a", "/b/a", false, false}, {"/b", "/a", false, false},
		{"/", "/", true, false}, {"/", "/a", false, true}, {"/", "/z", false, true}, {"/", "/-", false, true}, {"/", "/a/b", false, false}, {"/", "/a/b/c", false, false},
		{"/a/b", "/a/b", true, false}, {"/a/b", "/a", false, false}, {"/a/b", "/", false, false}, {"/a/b", "/a/b/c", false, true}, {"/a/b", "/a/b/c/d", false, false}, {"/a/b", "/a/bc", false, false}, {"/a/b", "/a/c", false, false}, {"/a/b", "/b/a/b", false, false}, {"/a/b", "/c/b", false, false}, {"/a/b", "/a-b", false, false},
		{"/1/2/3/4/5/6/7/8", "/1/2/3/4/5/6/7/8", true, false}, {"/1/2/3/4/5/6/7", "/1/2/3/4/5/6/7/8", false, true}, {"/1/2/3/4/5/6", "/1/2/3/4/5/6/7/8", false, false},
		{pathOfBytes(100), pathOfBytes(100), true, false}, {pathOfBytes(100)[:93], pathOfBytes(100), false, true}, {pathOfBytes(99), pathOfBytes(100), false, false},
	} {
		for _, kind := range []int{created, set, deleted} {
			wantTouches(t, change(kind, c.changed), data(c.watched, 1), c.equal)
			wantTouches(t, change(kind, c.changed), kids(c.watched, 1), c.child && kind != set)
		}
		for _, kind := range wrongKinds {
			wantTouches(t, change(kind, c.changed), data(c.watched, 1), false)
			wantTouches(t, change(kind, c.changed), kids(c.watched, 1), false)
		}
	}
}

// A Path that is not a path triggers nothing, also if the text is equal, or is what would be a child.
func TestTouchesOfNoPath(t *testing.T) {
	for kind := -2; kind <= 6; kind++ {
		for _, p := range wrongPaths {
			for _, watched := range append(rightPaths, p, strings.TrimRight(p, "/"), p[:max(0, strings.LastIndexByte(p, '/'))]) {
				wantTouches(t, change(kind, p), data(watched, 1), false)
				wantTouches(t, change(kind, p), kids(watched, 1), false)
			}
		}
		for _, p := range []string{"a", "/a/", "/a//b", "/a/B", "/a/b c", "/a/" + long(31), "//"} {
			for _, watched := range []string{"/a", "/", ""} {
				wantTouches(t, change(kind, p), data(watched, 1), false)
				wantTouches(t, change(kind, p), kids(watched, 1), false)
			}
		}
		// What has no path is not the parent of the root.
		wantTouches(t, change(kind, "/"), kids("", 1), false)
		wantTouches(t, change(kind, "/"), data("", 1), false)
		wantTouches(t, change(kind, ""), kids("", 1), false)
		wantTouches(t, change(kind, ""), data("", 1), false)
	}
}

// Each two of many paths, with each kind.
func TestTouchesOfEachTwo(t *testing.T) {
	paths := slices.Concat(rightPaths, wrongPaths, tree(), []string{"/n/" + long(30), "/n"})
	triggered := 0
	for _, changed := range paths {
		for _, watched := range paths {
			for _, kind := range append(wrongKinds, created, set, deleted) {
				for _, w := range []watch.Watch{data(watched, 3), kids(watched, 3)} {
					want := touches(change(kind, changed), w)
					if got := watch.Touches(change(kind, changed), w); got != want {
						t.Errorf("Touches(%d of %.120q, %.120q %v) = %v", kind, changed, watched, w.Kids, got)
					}
					if want {
						triggered++
					}
				}
			}
		}
	}
	if triggered < 300 {
		t.Errorf("%d were triggered", triggered)
	}
}

// tree is the root and all paths of up to three names, each of which is one of three.
func tree() []string {
	l := []string{"/"}
	for _, a := range []string{"/a", "/b", "/ab"} {
		l = append(l, a)
		for _, b := range []string{"/a", "/b", "/ab"} {
			l = append(l, a+b)
			for _, c := range []string{"/a", "/b", "/ab"} {
				l = append(l, a+b+c)
			}
		}
	}
	return l
}

func TestFireOfNoChanges(t *testing.T) {
	for _, given := range []watch.Table{{}, {L: []watch.Watch{}}, full(1), full(200), mixed()} {
		wantFire(t, given, nil)
		wantFire(t, given, []watch.Change{})
	}
}

func TestFireWithoutWatches(t *testing.T) {
	for _, given := range []watch.Table{{}, {L: []watch.Watch{}}} {
		wantFire(t, given, []watch.Change{change(created, "/a")})
		wantFire(t, given, []watch.Change{change(created, "/a"), change(set, "/a"), change(deleted, "/a"), change(0, ""), change(deleted, "/a")})
	}
}

func TestFireOfOneChange(t *testing.T) {
	given := mixed()
	for c, triggered := range map[watch.Change][]watch.Watch{
		change(created, "/a"):     {data("/a", 1), kids("/", 2), data("/a", 0), kids("/", 1)},
		change(set, "/a"):         {data("/a", 1), data("/a", 0)},
		change(deleted, "/a"):     {data("/a", 1), kids("/", 2), data("/a", 0), kids("/", 1)},
		change(created, "/a/b"):   {kids("/a", 1), data("/a/b", 1), kids("/a", 0)},
		change(set, "/a/b"):       {data("/a/b", 1)},
		change(deleted, "/a/b"):   {kids("/a", 1), data("/a/b", 1), kids("/a", 0)},
		change(created, "/a/c"):   {kids("/a", 1), kids("/a", 0)},
		change(set, "/a/c"):       nil,
		change(deleted, "/a/b/c"): {kids("/a/b", 3)},
		change(set, "/a/b/c"):     nil,
		change(created, "/"):      {data("/", 1)},
		change(set, "/"):          {data("/", 1)},
		change(set, "/b"):         {data("/b", 2)},
		change(created, "/b"):     {kids("/", 2), data("/b", 2), kids("/", 1)},
		change(created, "/c/d"):   nil,
		change(0, "/a"):           nil,
		change(4, "/a"):           nil,
		change(-1, "/a"):          nil,
		change(created, "/a/"):    nil,
		change(deleted, ""):       nil,
	} {
		var events []watch.Event
		for _, w := range triggered {
			events = append(events, event(c, w))
		}
		wantFire(t, given, []watch.Change{c}, events...)
		// The same change again triggers nothing more.
		wantFire(t, given, []watch.Change{c, c}, events...)
		left := wantFire(t, given, []watch.Change{c}, events...)
		wantFire(t, left, []watch.Change{c})
	}
}

// A change that triggers all watches of a table, and one that triggers a single one of many.
func TestFireOfFullTables(t *testing.T) {
	for _, n := range []int{1, 2, 199, 200} {
		var given watch.Table
		var events []watch.Event
		c := change(created, "/a/b")
		for i := range n {
			w := watch.Watch{Path: []string{"/a/b", "/a"}[i%2], Client: n - i, Kids: i%2 == 1}
			given.L = append(given.L, w)
			events = append(events, event(c, w))
		}
		wantFire(t, given, []watch.Change{c}, events...)
		wantFire(t, given, []watch.Change{change(set, "/a"), change(deleted, "/"), c, change(deleted, "/a/b")}, events...)
		for i := range n {
			w := data("/x/y", 3)
			wantFire(t, with(given, i, w), []watch.Change{change(set, "/x/y")}, event(change(set, "/x/y"), w))
		}
	}
}

// The events are in the order of the changes and, for each change, in the order of the watches.
func TestFireInOrder(t *testing.T) {
	given := mixed()
	a, b, ab := change(set, "/a"), change(deleted, "/b"), change(created, "/a/b")
	ofA := []watch.Event{event(a, data("/a", 1)), event(a, data("/a", 0))}
	ofB := []watch.Event{event(b, kids("/", 2)), event(b, data("/b", 2)), event(b, kids("/", 1))}
	ofAB := []watch.Event{event(ab, kids("/a", 1)), event(ab, data("/a/b", 1)), event(ab, kids("/a", 0))}
	none := change(set, "/c")
	for _, c := range []struct {
		changes []watch.Change
		events  []watch.Event
	}{
		{[]watch.Change{a, b, ab}, slices.Concat(ofA, ofB, ofAB)},
		{[]watch.Change{a, ab, b}, slices.Concat(ofA, ofAB, ofB)},
		{[]watch.Change{b, a, ab}, slices.Concat(ofB, ofA, ofAB)},
		{[]watch.Change{b, ab, a}, slices.Concat(ofB, ofAB, ofA)},
		{[]watch.Change{ab, a, b}, slices.Concat(ofAB, ofA, ofB)},
		{[]watch.Change{ab, b, a}, slices.Concat(ofAB, ofB, ofA)},
		{[]watch.Change{none, ab, none, b, none}, slices.Concat(ofAB, ofB)},
		{[]watch.Change{b, b, a, b, a, a, b}, slices.Concat(ofB, ofA)},
		{[]watch.Change{none, none}, nil},
		{[]watch.Change{change(9, "/a"), a, change(created, "a")}, ofA},
	} {
		wantFire(t, given, c.changes, c.events...)
	}
	wantFire(t, tableOf(data("/a", 2), data("/a", 1)), []watch.Change{a}, event(a, data("/a", 2)), event(a, data("/a", 1)))
	wantFire(t, tableOf(data("/a", 1), data("/a", 2)), []watch.Change{a}, event(a, data("/a", 1)), event(a, data("/a", 2)))
	wantFire(t, tableOf(kids("/", 1), data("/b", 1)), []watch.Change{b}, event(b, kids("/", 1)), event(b, data("/b", 1)))
	wantFire(t, tableOf(data("/b", 1), kids("/", 1)), []watch.Change{b}, event(b, data("/b", 1)), event(b, kids("/", 1)))
}

// P11.2, the chapter's example, and the same watch added again.
func TestExample(t *testing.T) {
	w, c := kids("/a", 1), change(created, "/a/b")
	left := wantFire(t, tableOf(w), []watch.Change{change(set, "/a/b")})
	left = wantFire(t, left, []watch.Change{c}, event(c, w))
	left = wantFire(t, left, []watch.Change{c, change(deleted, "/a/b")})
	left = wantAdd(t, left, w, api.OK)
	wantFire(t, left, []watch.Change{change(set, "/a/b"), change(deleted, "/a/b")}, event(change(deleted, "/a/b"), w))
}

// wantOnce checks P11.2 for one table and one row of changes: each watch either stays and no change triggers it, or is notified once, of the first change that triggers it.
func wantOnce(t *testing.T, given watch.Table, l []watch.Change) int {
	t.Helper()
	r, events := fire(t, given, l)
	wantRight(t, r, true)
	told := map[watch.Watch][]watch.Change{}
	for _, e := range events {
		told[e.W] = append(told[e.W], e.C)
	}
	stays := map[watch.Watch]int{}
	for _, w := range r.L {
		stays[w]++
	}
	first := map[watch.Watch]int{}
	var left watch.Table
	for _, w := range given.L {
		i := slices.IndexFunc(l, func(c watch.Change) bool { return touches(c, w) })
		switch {
		case i < 0 && (stays[w] != 1 || len(told[w]) != 0):
			t.Errorf("%v of %v, without a change of %v: stays %d times, notified of %v", w, given.L, l, stays[w], told[w])
		case i >= 0 && (stays[w] != 0 || !slices.Equal(told[w], l[i:i+1])):
			t.Errorf("%v of %v, with %v of %v: stays %d times, notified of %v", w, given.L, l[i], l, stays[w], told[w])
		}
		first[w] = i
		if i < 0 {
			left.L = append(left.L, w)
		}
	}
	wantTable(t, "what stays", r, left)
	inOrder := slices.IsSortedFunc(events, func(a, b watch.Event) int {
		if d := first[a.W] - first[b.W]; d != 0 {
			return d
		}
		return slices.Index(given.L, a.W) - slices.Index(given.L, b.W)
	})
	if !inOrder || len(r.L)+len(events) != len(given.L) {
		t.Errorf("%v, changes %v: %v stay, events %v", given.L, l, r.L, events)
	}
	return len(events)
}

// wantPieces checks that changes in two pieces, one behind the other, have the effect of all of them at once.
func wantPieces(t *testing.T, given watch.Table, l []watch.Change, cut int) {
	t.Helper()
	whole, all := fire(t, given, l)
	left, events := fire(t, given, l[:cut])
	left, more := fire(t, left, l[cut:])
	wantTable(t, "in pieces", left, whole)
	if !slices.Equal(all, slices.Concat(events, more)) {
		t.Errorf("%v, changes %v, %v: events %v, %v, not %v", given.L, l[:cut], l[cut:], events, more, all)
	}
}

func TestFireInPieces(t *testing.T) {
	for _, l := range [][]watch.Change{
		nil,
		{change(set, "/a")},
		{change(set, "/a"), change(set, "/a")},
		{change(created, "/a/b"), change(deleted, "/a/b"), change(set, "/a"), change(deleted, "/a"), change(7, "/b"), change(set, "/b"), change(set, "/b"), change(created, "/b/c")},
	} {
		for _, given := range []watch.Table{{}, mixed(), full(200)} {
			for cut := range len(l) + 1 {
				wantPieces(t, given, l, cut)
			}
			wantOnce(t, given, l)
		}
	}
}

// Every row of up to three changes of some, some of them twice.
func TestOnceOfEachShortRow(t *testing.T) {
	some := []watch.Change{change(created, "/a"), change(set, "/a"), change(deleted, "/a"), change(created, "/a/b"), change(set, "/a/b"), change(deleted, "/a/b"), change(set, "/"), change(created, "/"), change(0, "/a"), change(created, "/b"), change(set, "/b/"), change(created, "/a/b/c")}
	for _, a := range some {
		wantOnce(t, mixed(), []watch.Change{a})
		for _, b := range some {
			wantOnce(t, mixed(), []watch.Change{a, b})
			for _, c := range some {
				wantOnce(t, mixed(), []watch.Change{a, b, c})
			}
		}
	}
}

func randomTable(r *rand.Rand, n int, paths []string) watch.Table {
	var t watch.Table
	for range n {
		w := watch.Watch{Path: paths[r.IntN(len(paths))], Client: r.IntN(4), Kids: r.IntN(2) == 0}
		if !slices.Contains(t.L, w) {
			t.L = append(t.L, w)
		}
	}
	return t
}

// randomChanges is a row of changes of which some are there twice, and few trigger nothing whatever the table.
func randomChanges(r *rand.Rand, n int, paths []string) []watch.Change {
	var l []watch.Change
	for range n {
		c := change(1+r.IntN(3), paths[r.IntN(len(paths))])
		switch r.IntN(12) {
		case 0:
			c.Kind = wrongKinds[r.IntN(len(wrongKinds))]
		case 1:
			c.Path = wrongPaths[r.IntN(len(wrongPaths)-2)]
		case 2, 3:
			if len(l) > 0 {
				c = l[r.IntN(len(l))]
			}
		}
		l = append(l, c)
	}
	return l
}

// P11.2: many tables and rows of changes.
func TestOnce(t *testing.T) {
	paths := tree()
	triggered, watches := 0, 0
	for seed := range uint64(2000) {
		r := rand.New(rand.NewPCG(seed, 11))
		given := randomTable(r, r.IntN(200), paths)
		l := randomChanges(r, r.IntN(1<<r.IntN(8)), paths)
		triggered += wantOnce(t, given, l)
		watches += len(given.L)
		wantPieces(t, given, l, r.IntN(len(l)+1))
	}
	if triggered < watches/10 || triggered > watches*9/10 {
		t.Errorf("of %d watches %d are notified", watches, triggered)
	}
}

// P11.2: tables of 200 watches, which are added and canceled between the changes.
func TestOnceOfManySteps(t *testing.T) {
	paths := tree()
	rejected := 0
	for seed := range uint64(10) {
		r := rand.New(rand.NewPCG(seed, 12))
		var given watch.Table
		for range 100 {
			for range r.IntN(60) {
				w := watch.Watch{Path: paths[r.IntN(len(paths))], Client: r.IntN(6), Kids: r.IntN(2) == 0}
				wanted := api.OK
				if len(given.L) == maxWatches && !slices.Contains(given.L, w) {
					wanted = api.ErrFull
					rejected++
				}
				given = wantAdd(t, given, w, wanted)
			}
			l := randomChanges(r, r.IntN(6), paths)
			wantOnce(t, given, l)
			given, _ = fire(t, given, l)
			if r.IntN(10) == 0 {
				given = wantCancel(t, given, r.IntN(7))
			}
		}
	}
	if rejected < 20 {
		t.Errorf("%d watches found a full table", rejected)
	}
}

// wantCancel checks one Cancel: the watches of the client go, and all others stay.
func wantCancel(t *testing.T, given watch.Table, client int) watch.Table {
	t.Helper()
	var left watch.Table
	for _, w := range given.L {
		if w.Client != client {
			left.L = append(left.L, w)
		}
	}
	r := cancel(t, given, client)
	wantTable(t, fmt.Sprintf("Cancel of %d", client), r, left)
	wantTable(t, fmt.Sprintf("Cancel of %d again", client), cancel(t, r, client), left)
	return r
}

func TestCancel(t *testing.T) {
	for _, given := range []watch.Table{{}, {L: []watch.Watch{}}, full(1), full(2), full(50), full(199), full(200), mixed(), tableOf(data("/", 0)), tableOf(data("/a", 0), data("/a", math.MaxInt))} {
		for client := -3; client <= 10; client++ {
			wantCancel(t, given, client)
		}
		for _, client := range append(rightClients, wrongClients...) {
			wantCancel(t, given, client)
		}
	}
	given := mixed()
	wantTable(t, "no watches", cancel(t, given, 4), given)
	wantTable(t, "one watch", cancel(t, given, 3), without(given, kids("/a/b", 3)))
	wantTable(t, "two watches", cancel(t, given, 0), without(given, data("/a", 0), kids("/a", 0)))
	wantTable(t, "others stay in order", cancel(t, cancel(t, given, 1), 2), tableOf(data("/a", 0), kids("/a/b", 3), kids("/a", 0)))
	wantTable(t, "all", cancel(t, tableOf(data("/a", 7), kids("/a", 7), data("/", 7)), 7), watch.Table{})
	wantTable(t, "each client", cancel(t, cancel(t, cancel(t, cancel(t, given, 3), 2), 1), 0), watch.Table{})
}

// One watch of a client at each place among those of another one.
func TestCancelAtEachPlace(t *testing.T) {
	for _, n := range []int{1, 2, 3, 199, 200} {
		var given watch.Table
		for i := range n {
			given.L = append(given.L, data(fmt.Sprintf("/%d", i), 1))
		}
		for i := range n {
			one := with(given, i, kids("/x", 2))
			wantTable(t, fmt.Sprintf("one at %d of %d", i, n), cancel(t, one, 2), without(one, kids("/x", 2)))
			wantTable(t, fmt.Sprintf("all but that at %d of %d", i, n), cancel(t, one, 1), tableOf(kids("/x", 2)))
		}
	}
}

func TestSame(t *testing.T) {
	wantSame(t, watch.Table{}, watch.Table{L: []watch.Watch{}}, true)
	if !watch.Same(watch.Table{}, watch.Table{L: []watch.Watch{}}) || !watch.Same(watch.Table{}, watch.Table{}) {
		t.Errorf("nil and empty tables are equal")
	}
	for n := range 210 {
		wantSame(t, full(n), full(n), true)
		wantSame(t, full(n), full(n+1), false)
		wantSame(t, full(n), watch.Table{}, n == 0)
	}
	for _, given := range []watch.Table{full(1), full(2), full(200), mixed()} {
		for i, w := range given.L {
			wantSame(t, given, with(given, i, w), true)
			wantSame(t, given, with(given, i, watch.Watch{Path: w.Path + "x", Client: w.Client, Kids: w.Kids}), false)
			wantSame(t, given, with(given, i, watch.Watch{Path: "/x", Client: w.Client, Kids: w.Kids}), false)
			wantSame(t, given, with(given, i, watch.Watch{Path: w.Path, Client: w.Client + 1, Kids: w.Kids}), false)
			wantSame(t, given, with(given, i, watch.Watch{Path: w.Path, Client: -w.Client - 1, Kids: w.Kids}), false)
			wantSame(t, given, with(given, i, watch.Watch{Path: w.Path, Client: w.Client, Kids: !w.Kids}), false)
			wantSame(t, given, without(given, w), false)
			for j, other := range given.L[:i] {
				wantSame(t, given, with(with(given, i, other), j, w), false)
			}
		}
	}
}

// Same and Right accept tables that are not valid.
func TestOfTablesThatAreNotValid(t *testing.T) {
	bad := []watch.Table{
		tableOf(watch.Watch{}), tableOf(watch.Watch{}, watch.Watch{}), tableOf(data("a", -1)), tableOf(data("/a", 1), data("/a", 1)),
		tableOf(kids("", math.MinInt)), full(201), tableOf(kids("/a", -1)), tableOf(data("/"+long(1<<16), 0)),
	}
	for i, a := range bad {
		wantRight(t, a, false)
		for j, b := range bad {
			wantSame(t, a, b, i == j)
		}
		wantSame(t, a, tableOf(data("/a", 1)), false)
	}
}

// Right changes nothing either.
func TestRightChangesNothing(t *testing.T) {
	for _, given := range []watch.Table{{}, mixed(), full(200), full(201), tableOf(data("/b", 2), data("/a", 1)), tableOf(data("a", -1), data("/", 0), data("/", 0))} {
		c := guarded(given)
		watch.Right(c)
		wantKept(t, given, c)
	}
}

// What is done to an answer is not to be seen in the next one, nor in another list of the same answer.
func TestAnswersAreNew(t *testing.T) {
	given, l := mixed(), []watch.Change{change(created, "/a"), change(set, "/b")}
	left, events := watch.Fire(given, l)
	wantedLeft, wantedEvents := tableOf(slices.Clone(left.L)...), slices.Clone(events)
	whole := events[:cap(events)]
	for i := range whole {
		whole[i] = watch.Event{}
	}
	wantTable(t, "after a change of the events", left, wantedLeft)
	again, more := watch.Fire(given, l)
	wantTable(t, "fired again", again, wantedLeft)
	if !slices.Equal(more, wantedEvents) {
		t.Errorf("%v, not %v", more, wantedEvents)
	}
}

// Two tables that grow out of one do not overwrite each other.
func TestTablesThatGrowOutOfOne(t *testing.T) {
	base, _ := watch.Add(full(5), data("/base", 1))
	one, _ := watch.Add(base, data("/one", 1))
	two, _ := watch.Add(base, data("/two", 1))
	there, _ := watch.Add(one, data("/one", 1))
	_, _ = watch.Add(there, data("/three", 1))
	wantTable(t, "the first one", one, tableOf(append(full(5).L, data("/base", 1), data("/one", 1))...))
	wantTable(t, "the second one", two, tableOf(append(full(5).L, data("/base", 1), data("/two", 1))...))
}

// Fuzzed rows of watches and changes: three bytes for each of them.
func FuzzOnce(f *testing.F) {
	f.Add([]byte{0, 1, 1, 1, 1, 1, 2, 0, 0}, []byte{1, 1, 2, 1, 2, 2})
	f.Add([]byte("watches of some clients"), []byte("changes of some kinds"))
	paths := slices.Concat(tree(), rightPaths, wrongPaths[:len(wrongPaths)-2])
	f.Fuzz(func(t *testing.T, watches, kinds []byte) {
		var given watch.Table
		for ; len(watches) >= 3 && len(given.L) < maxWatches; watches = watches[3:] {
			w := watch.Watch{Path: paths[int(watches[0])%len(paths)], Client: int(int8(watches[1])), Kids: watches[2]%2 == 1}
			wanted := api.OK
			switch {
			case !isPath(w.Path):
				wanted = api.ErrName
			case w.Client < 0:
				wanted = api.ErrArg
			}
			given = wantAdd(t, given, w, wanted)
		}
		var l []watch.Change
		for ; len(kinds) >= 2 && len(l) < 500; kinds = kinds[2:] {
			l = append(l, change(int(kinds[0])%6-1, paths[int(kinds[1])%len(paths)]))
		}
		wantOnce(t, given, l)
		wantPieces(t, given, l, len(l)/2)
	})
}

func FuzzTouches(f *testing.F) {
	f.Add(1, "/a/b", "/a", true, 1, "/a", 2)
	f.Add(2, "/a", "/a", false, 0, "/", 0)
	f.Add(3, "/", "", true, -1, "", -1)
	f.Fuzz(func(t *testing.T, kind int, changed, watched string, ofKids bool, client int, other string, another int) {
		c, w := change(kind, changed), watch.Watch{Path: watched, Client: client, Kids: ofKids}
		if got := watch.Touches(c, w); got != touches(c, w) {
			t.Errorf("Touches(%q, %q) = %v", fmt.Sprint(c), fmt.Sprint(w), got)
		}
		for _, given := range []watch.Table{tableOf(w), tableOf(w, data(other, another)), tableOf(data(other, another), w)} {
			wantRight(t, given, isRight(given))
			wantSame(t, given, tableOf(w), len(given.L) == 1)
		}
	})
}
