package path_test

import (
	"fmt"
	"math/rand/v2"
	"regexp"
	"slices"
	"strings"
	"testing"

	"consistory/api"
	"consistory/path"
)

const nameBytes = "abcdefghijklmnopqrstuvwxyz0123456789-_"

var (
	nameForm = regexp.MustCompile(`\A[a-z0-9_-]{1,30}\z`)
	pathForm = regexp.MustCompile(`\A(/|(/[a-z0-9_-]{1,30}){1,8})\z`)
)

func isPath(s string) bool { return len(s) <= 100 && pathForm.MatchString(s) }

func long(n int) string { return strings.Repeat("a", n) }

// pathOf is the text with these names, even where it is no path.
func pathOf(names ...string) string {
	if len(names) == 0 {
		return "/"
	}
	return "/" + strings.Join(names, "/")
}

// pathOfBytes is a path of n bytes, which has 4 names: 3 of 30 bytes, and the last one.
func pathOfBytes(n int) string {
	return pathOf(long(30), strings.Repeat("b", 30), strings.Repeat("-", 30), strings.Repeat("0", n-94))
}

// row is a path with its names.
type row struct {
	path  string
	names []string
}

// rows are paths of 0 to 8 names, with names and with paths of the least and of the greatest lengths.
var rows = []row{
	{"/", nil},
	{"/a", []string{"a"}},
	{"/z", []string{"z"}},
	{"/-", []string{"-"}},
	{"/_", []string{"_"}},
	{"/0", []string{"0"}},
	{"/name", []string{"name"}},
	{"/-_-", []string{"-_-"}},
	{"/" + long(29), []string{long(29)}},
	{"/" + long(30), []string{long(30)}},
	{"/a/b", []string{"a", "b"}},
	{"/b/a", []string{"b", "a"}},
	{"/a/a", []string{"a", "a"}},
	{"/a/b-c_0", []string{"a", "b-c_0"}},
	{"/x/" + long(30), []string{"x", long(30)}},
	{"/c/b/a", []string{"c", "b", "a"}},
	{"/1/22/333/4444", []string{"1", "22", "333", "4444"}},
	{"/e/d/c/b/a", []string{"e", "d", "c", "b", "a"}},
	{"/1/2/3/4/5/6", []string{"1", "2", "3", "4", "5", "6"}},
	{"/7/6/5/4/3/2/1", []string{"7", "6", "5", "4", "3", "2", "1"}},
	{"/1/2/3/4/5/6/7/8", []string{"1", "2", "3", "4", "5", "6", "7", "8"}},
	{"/-/-/-/-/-/-/-/-", []string{"-", "-", "-", "-", "-", "-", "-", "-"}},
	{"/h/g/f/e/d/c/b/" + long(30), []string{"h", "g", "f", "e", "d", "c", "b", long(30)}},
	{pathOfBytes(99), []string{long(30), strings.Repeat("b", 30), strings.Repeat("-", 30), "00000"}},
	{pathOfBytes(100), []string{long(30), strings.Repeat("b", 30), strings.Repeat("-", 30), "000000"}},
	{pathOf(long(12), long(12), long(12), long(12), long(12), long(11), long(11), long(10)), []string{long(12), long(12), long(12), long(12), long(12), long(11), long(11), long(10)}},
}

// wrongPaths are texts that are not paths.
func wrongPaths() []string {
	l := []string{
		"",
		"a", "name", "a/b", "a/", "a//", "-", ".", "\x00", " ", " /", " /a", "./a", "\\a", "a/b/c/d",
		"/a/", "/a/b/", "/1/2/3/4/5/6/7/", "/1/2/3/4/5/6/7/8/", "/" + long(30) + "/",
		"//", "///", "//a", "/a//", "/a//b", "//a/b", "/a/b//c", "/a///b", "/1/2/3//4/5/6/7", "/////////", strings.Repeat("/", 100),
		"/A", "/a/B", "/a/Bc/d", "/a b", "/a/ ", "/ ", "/ /a", "/.", "/..", "/a/.", "/a/..", "/a/../b", "/a.b", "/a\x00", "/\x00", "/a/\x00/b", "/\xff", "/a\x80", "/\u00e4", "/a/\u00e9/b", "/a\n", "/\n", "/a/b\n", "/a\\b", "/a+b", "/a:b", "/a,b", "/a`", "/a{", "/a@", "/a[", "/a^",
		"/1/2/3/4/5/6/7/8/9", "/1/2/3/4/5/6/7/8/9/0", "/-/-/-/-/-/-/-/-/-", pathOf(strings.Split(strings.Repeat("a", 49), "")...),
		"/" + long(31), "/a/" + long(31), "/" + long(31) + "/a", "/a/" + long(31) + "/b", "/" + long(99), "/" + long(100),
		pathOfBytes(101), pathOfBytes(102), pathOfBytes(124),
		pathOf(long(12), long(12), long(12), long(12), long(12), long(11), long(11), long(11)),
		pathOf(long(30), long(30), long(30), long(30)),
		pathOf(long(30), long(30), long(30), long(30), long(30), long(30), long(30), long(30)),
		"/a" + strings.Repeat("/a", 1<<16), "/" + long(1<<20), long(1 << 20), strings.Repeat("/", 1<<20),
	}
	for b := range 256 {
		if s := string([]byte{byte(b)}); !strings.Contains(nameBytes, s) && s != "/" {
			l = append(l, s, "/"+s, "/"+s+"a", "/a"+s+"b", "/a"+s, s+"/a", "/a/"+s+"/b", "/a/b"+s, "/a/"+s, "/"+s+"/a", "/1/2/3/4/5/6/7/8"+s)
		}
	}
	return l
}

// wrongNames are texts that are not names.
func wrongNames() []string {
	return []string{"", "/", "/a", "a/", "a/b", "a//b", "//", ".", "..", "A", "aB", "Ba", "a b", " ", " a", "a ", "a\x00", "\x00", "\xff", "a\x80b", "\u00e4", "a\n", long(31), long(32), long(100), long(1 << 20), long(30) + "/"}
}

func TestIsNameOfEachByte(t *testing.T) {
	for b := range 256 {
		want := b >= 'a' && b <= 'z' || b >= '0' && b <= '9' || b == '-' || b == '_'
		if got := path.IsName(string([]byte{byte(b)})); got != want {
			t.Errorf("byte %d: %v", b, got)
		}
	}
	for _, c := range []byte(nameBytes) {
		if !path.IsName(string(c)) {
			t.Errorf("%q is a name", c)
		}
	}
	for _, s := range []string{"A", "M", "Z", "/", ".", " ", "\x00", "\x7f", "\x80", "\xe4", "\xff", "`", "{", "@", "[", ":", ",", "^"} {
		if path.IsName(s) {
			t.Errorf("%q is not a name", s)
		}
	}
}

func TestIsNameOfEachLength(t *testing.T) {
	for n := range 300 {
		want := n >= 1 && n <= 30
		for _, c := range []string{"a", "z", "0", "9", "-", "_"} {
			if got := path.IsName(strings.Repeat(c, n)); got != want {
				t.Errorf("%d of %q: %v", n, c, got)
			}
		}
	}
	for _, s := range []string{"ab", nameBytes[:30], nameBytes[8:], "a-b_c0", "--", "__", "0a", "-a"} {
		if !path.IsName(s) {
			t.Errorf("%q is a name", s)
		}
	}
	for _, s := range []string{"", nameBytes, nameBytes[:31], long(1 << 20)} {
		if path.IsName(s) {
			t.Errorf("%q is not a name", s)
		}
	}
}

// Each byte at each place of names of few and of many bytes.
func TestIsNameOfEachPlace(t *testing.T) {
	for _, n := range []int{2, 3, 5, 29, 30} {
		for place := range n {
			for b := range 256 {
				s := []byte(long(n))
				s[place] = byte(b)
				if got, want := path.IsName(string(s)), strings.IndexByte(nameBytes, byte(b)) >= 0; got != want {
					t.Errorf("byte %d at %d of %d: %v", b, place, n, got)
				}
			}
		}
	}
	for _, s := range wrongNames() {
		if path.IsName(s) {
			t.Errorf("%.40q is not a name", s)
		}
	}
}

func TestRight(t *testing.T) {
	for _, r := range rows {
		if !path.Right(r.path) {
			t.Errorf("%q is a path", r.path)
		}
	}
	for _, s := range wrongPaths() {
		if path.Right(s) {
			t.Errorf("%.40q is not a path", s)
		}
	}
}

func TestRightOfEachNumberOfNames(t *testing.T) {
	for n := 1; n <= 20; n++ {
		for _, name := range []string{"a", "-", "ab", "0_0"} {
			p := strings.Repeat("/"+name, n)
			if got := path.Right(p); got != (n <= 8) {
				t.Errorf("%q: %v", p, got)
			}
			for _, s := range []string{p + "/", "/" + p, p[1:], p + "/" + name + "/"} {
				if path.Right(s) {
					t.Errorf("%q is not a path", s)
				}
			}
		}
	}
}

func TestRightOfEachLength(t *testing.T) {
	for n := 95; n <= 124; n++ {
		if got := path.Right(pathOfBytes(n)); got != (n <= 100) {
			t.Errorf("%d bytes: %v", n, got)
		}
	}
	for n := range 40 {
		for _, s := range []string{"/" + long(n), "/a/" + long(n), "/a/b/c/d/e/f/g/" + long(n), "/" + long(n) + "/a"} {
			if got, want := path.Right(s), n >= 1 && n <= 30 || s == "/"; got != want {
				t.Errorf("%q: %v", s, got)
			}
		}
	}
}

// wantAsFormed checks Right, Names and Parent of any text against what the form says.
func wantAsFormed(t *testing.T, s string) {
	t.Helper()
	right := path.Right(s)
	names, e := path.Names(s)
	parent, f := path.Parent(s)
	if right != isPath(s) {
		t.Errorf("%q: %v", s, right)
	}
	switch {
	case !isPath(s):
		if len(names) != 0 || parent != "" || e != api.ErrName || f != api.ErrName {
			t.Errorf("%q is no path: %q, %d; %q, %d", s, names, e, parent, f)
		}
	case s == "/":
		if len(names) != 0 || parent != "" || e != api.OK || f != api.ErrNone {
			t.Errorf("%q: %q, %d; %q, %d", s, names, e, parent, f)
		}
	default:
		last := len(names) - 1
		if e != api.OK || f != api.OK || last < 0 || pathOf(names...) != s || parent != pathOf(names[:last]...) {
			t.Errorf("%q: %q, %d; %q, %d", s, names, e, parent, f)
		}
	}
}

// texts hands each text of up to most of these bytes to f.
func texts(bytes string, most int, f func(string)) {
	level := []string{""}
	for range most + 1 {
		var next []string
		for _, s := range level {
			f(s)
			for _, c := range []byte(bytes) {
				next = append(next, s+string([]byte{c}))
			}
		}
		level = next
	}
}

func TestAllShortTexts(t *testing.T) {
	texts("/a-A\xff", 7, func(s string) {
		wantAsFormed(t, s)
		if got := path.IsName(s); got != nameForm.MatchString(s) {
			t.Errorf("IsName(%q) = %v", s, got)
		}
	})
}

func TestTextsOfManySeparators(t *testing.T) {
	texts("/a", 12, func(s string) {
		wantAsFormed(t, s)
		wantAsFormed(t, "/a/a/a/a"+s)
		wantAsFormed(t, "/a/a/a/a/a/a"+s)
	})
}

func TestNames(t *testing.T) {
	for _, r := range rows {
		if l, e := path.Names(r.path); !slices.Equal(l, r.names) || e != api.OK {
			t.Errorf("Names(%q) = %q, %d", r.path, l, e)
		}
	}
	for _, s := range wrongPaths() {
		if l, e := path.Names(s); len(l) != 0 || e != api.ErrName {
			t.Errorf("Names(%.40q) = %d names, %d", s, len(l), e)
		}
	}
}

// What is done to an answer is not to be seen in the next one.
func TestNamesAreNew(t *testing.T) {
	for _, r := range rows {
		l, _ := path.Names(r.path)
		other, _ := path.Names(r.path)
		l = append(l, "more")
		for i := range l {
			l[i] = "other"
		}
		again, e := path.Names(r.path)
		if !slices.Equal(again, r.names) || !slices.Equal(other, r.names) || e != api.OK {
			t.Errorf("Names(%q): %q, %q", r.path, other, again)
		}
	}
}

func TestParent(t *testing.T) {
	for _, c := range []struct{ path, parent string }{
		{"/a", "/"}, {"/-", "/"}, {"/" + long(30), "/"},
		{"/a/b", "/a"}, {"/a/a", "/a"}, {"/ab/c", "/ab"}, {"/a-b/c_d", "/a-b"}, {"/" + long(30) + "/b", "/" + long(30)},
		{"/a/b/c", "/a/b"}, {"/a/a/a", "/a/a"},
		{"/1/2/3/4/5/6/7/8", "/1/2/3/4/5/6/7"}, {"/8/8/8/8/8/8/8/8", "/8/8/8/8/8/8/8"},
		{pathOfBytes(100), pathOfBytes(100)[:93]},
	} {
		if p, e := path.Parent(c.path); p != c.parent || e != api.OK {
			t.Errorf("Parent(%q) = %q, %d", c.path, p, e)
		}
	}
	for _, r := range rows[1:] {
		if p, e := path.Parent(r.path); p != pathOf(r.names[:len(r.names)-1]...) || e != api.OK {
			t.Errorf("Parent(%q) = %q, %d", r.path, p, e)
		}
	}
}

func TestParentOfNoParent(t *testing.T) {
	if p, e := path.Parent("/"); p != "" || e != api.ErrNone {
		t.Errorf("Parent of /: %q, %d", p, e)
	}
	for _, s := range wrongPaths() {
		if p, e := path.Parent(s); p != "" || e != api.ErrName {
			t.Errorf("Parent(%.40q) = %.40q, %d", s, p, e)
		}
	}
}

func TestJoin(t *testing.T) {
	for _, c := range []struct{ path, name, joined string }{
		{"/", "a", "/a"}, {"/", "-", "/-"}, {"/", "_0", "/_0"}, {"/", long(30), "/" + long(30)},
		{"/a", "b", "/a/b"}, {"/a", "a", "/a/a"}, {"/a-b", "c_d", "/a-b/c_d"}, {"/a", long(30), "/a/" + long(30)},
		{"/a/b", "c", "/a/b/c"}, {"/1/2/3/4/5/6/7", "8", "/1/2/3/4/5/6/7/8"},
	} {
		if p, e := path.Join(c.path, c.name); p != c.joined || e != api.OK {
			t.Errorf("Join(%q, %q) = %q, %d", c.path, c.name, p, e)
		}
	}
	for _, r := range rows[1:] {
		last := len(r.names) - 1
		if p, e := path.Join(pathOf(r.names[:last]...), r.names[last]); p != r.path || e != api.OK {
			t.Errorf("Join to %q: %q, %d", r.path, p, e)
		}
	}
}

func wantNoJoin(t *testing.T, p, name string) {
	t.Helper()
	if joined, e := path.Join(p, name); joined != "" || e != api.ErrName {
		t.Errorf("Join(%.40q, %.40q) = %.40q, %d", p, name, joined, e)
	}
}

func TestJoinOfNoPath(t *testing.T) {
	for _, s := range wrongPaths() {
		for _, name := range []string{"a", "b-c", long(30), "", "/", "A", long(31)} {
			wantNoJoin(t, s, name)
		}
	}
}

// The texts put together may be a path, but what is joined is not a path and a name.
func TestJoinOfNoName(t *testing.T) {
	for _, name := range wrongNames() {
		for _, r := range rows {
			wantNoJoin(t, r.path, name)
		}
	}
	for b := range 256 {
		if strings.IndexByte(nameBytes, byte(b)) >= 0 {
			continue
		}
		wrong := string([]byte{byte(b)})
		for _, name := range []string{wrong, wrong + "a", "a" + wrong, "a" + wrong + "b"} {
			wantNoJoin(t, "/", name)
			wantNoJoin(t, "/a", name)
		}
	}
}

func TestJoinOfTooManyNames(t *testing.T) {
	for _, name := range []string{"a", "9", "-", long(30)} {
		for _, p := range []string{"/1/2/3/4/5/6/7/8", "/a/a/a/a/a/a/a/a", "/h/g/f/e/d/c/b/" + long(30)} {
			wantNoJoin(t, p, name)
		}
	}
}

func TestJoinOfTooManyBytes(t *testing.T) {
	three := pathOf(long(30), long(30), long(30))
	for n := 1; n <= 30; n++ {
		name := long(n)
		if n > 6 {
			wantNoJoin(t, three, name)
			continue
		}
		if p, e := path.Join(three, name); p != three+"/"+name || e != api.OK {
			t.Errorf("%d bytes: %q, %d", len(three)+1+n, p, e)
		}
	}
	for _, c := range []struct {
		path, name string
		right      bool
	}{
		{pathOfBytes(95), "abcd", true}, {pathOfBytes(95), "abcde", false}, {pathOfBytes(98), "a", true}, {pathOfBytes(98), "ab", false}, {pathOfBytes(99), "a", false}, {pathOfBytes(100), "a", false},
	} {
		joined, e := path.Join(c.path, c.name)
		if c.right && (joined != c.path+"/"+c.name || e != api.OK) {
			t.Errorf("Join(%q, %q) = %q, %d", c.path, c.name, joined, e)
		}
		if !c.right {
			wantNoJoin(t, c.path, c.name)
		}
	}
}

// pairs are two paths each, and whether the second one is below the first one, and the first one comes before the second one.
var pairs = []struct {
	p, q         string
	below, ahead bool
}{
	{"/a", "/a/b", true, true},
	{"/a", "/a/b/c", true, true},
	{"/a", "/a/b/c/d", true, true},
	{"/a/b", "/a/b/c", true, true},
	{"/a/b", "/a/b/-", true, true},
	{"/a", "/a/1/2/3/4/5/6/7", true, true},
	{"/1/2/3/4/5/6/7", "/1/2/3/4/5/6/7/8", true, true},
	{"/", "/a", true, true},
	{"/", "/-", true, true},
	{"/", "/a/b", true, true},
	{"/", "/1/2/3/4/5/6/7/8", true, true},
	{"/", "/" + long(30), true, true},
	{"/", pathOfBytes(100), true, true},
	{pathOfBytes(98), pathOfBytes(98) + "/z", true, true},

	{"/", "/", false, false},
	{"/a", "/a", false, false},
	{"/-", "/-", false, false},
	{"/a/b", "/a/b", false, false},
	{"/1/2/3/4/5/6/7/8", "/1/2/3/4/5/6/7/8", false, false},
	{pathOfBytes(100), pathOfBytes(100), false, false},

	{"/a", "/ab", false, true},
	{"/a", "/a-", false, true},
	{"/a", "/a-b", false, true},
	{"/a", "/aa", false, true},
	{"/a", "/ab/c", false, true},
	{"/a/b", "/a/bc", false, true},
	{"/a/b", "/a/b0/c", false, true},
	{"/" + long(29), "/" + long(30), false, true},

	{"/a/b", "/a-b", false, true},
	{"/a/z", "/a-", false, true},
	{"/a/z", "/a0", false, true},
	{"/a/z/z", "/a-/a", false, true},
	{"/a/b/c", "/a/b-c", false, true},
	{"/x/a/b/c", "/x/a-b", false, true},
	{"/a/z", "/a--", false, true},
	{"/a/_", "/a_", false, true},

	{"/a", "/b", false, true},
	{"/a/z", "/b", false, true},
	{"/a/z", "/b/a", false, true},
	{"/a/c", "/b/c", false, true},
	{"/abc", "/b", false, true},
	{"/a/b/c", "/a/c/b", false, true},
	{"/a/b/c", "/a/c/c", false, true},
	{"/a/bz/z", "/a/c", false, true},
	{"/a/b/c", "/a/b/d", false, true},
	{"/a/b/c", "/a/b/cc", false, true},
	{"/1/2/3/4/5/6/7/8", "/1/2/3/4/5/6/7/9", false, true},
	{"/1/2/3/4/5/6/7/8", "/1/2/3/4/5/6/8", false, true},

	// Bytewise: '-', then the digits, then '_', then the letters.
	{"/-", "/0", false, true},
	{"/0", "/9", false, true},
	{"/9", "/_", false, true},
	{"/_", "/a", false, true},
	{"/y", "/z", false, true},
	{"/10", "/2", false, true},
	{"/a/-", "/a/_", false, true},
	{"/a-b", "/a_b", false, true},
	{"/a9", "/a_", false, true},
}

func TestBelow(t *testing.T) {
	for _, c := range pairs {
		if got := path.Below(c.p, c.q); got != c.below {
			t.Errorf("Below(%q, %q) = %v", c.p, c.q, got)
		}
		if path.Below(c.q, c.p) {
			t.Errorf("Below(%q, %q)", c.q, c.p)
		}
	}
}

func TestAhead(t *testing.T) {
	for _, c := range pairs {
		if got := path.Ahead(c.p, c.q); got != c.ahead {
			t.Errorf("Ahead(%q, %q) = %v", c.p, c.q, got)
		}
		if path.Ahead(c.q, c.p) {
			t.Errorf("Ahead(%q, %q)", c.q, c.p)
		}
	}
}

func TestEachByteInOrder(t *testing.T) {
	for _, a := range []byte(nameBytes) {
		for _, b := range []byte(nameBytes) {
			for _, form := range []string{"/%c", "/%c/x", "/x/%c", "/x/%c/y", "/x%c", "/%cx", "/x/y%c/z/z"} {
				p, q := fmt.Sprintf(form, a), fmt.Sprintf(form, b)
				if got := path.Ahead(p, q); got != (a < b) {
					t.Errorf("Ahead(%q, %q) = %v", p, q, got)
				}
				if path.Below(p, q) {
					t.Errorf("Below(%q, %q)", p, q)
				}
			}
		}
	}
}

func wantNeither(t *testing.T, p, q string) {
	t.Helper()
	if path.Below(p, q) {
		t.Errorf("Below(%.40q, %.40q)", p, q)
	}
	if path.Ahead(p, q) {
		t.Errorf("Ahead(%.40q, %.40q)", p, q)
	}
}

func TestBelowAndAheadOfNoPaths(t *testing.T) {
	for _, s := range wrongPaths() {
		for _, p := range []string{"/", "/a", "/a/b", "/-", "/z", pathOfBytes(100), "/1/2/3/4/5/6/7/8", "/1/2/3/4/5/6/7", pathOfBytes(98), s, s + "/a", s + "a", "", "/A"} {
			wantNeither(t, s, p)
			wantNeither(t, p, s)
		}
	}
	// What begins with a path, and would be below it or behind it.
	for _, r := range rows {
		for _, s := range []string{"/", "/A", "/a/", "//a", "/" + long(31), "/a/a/a/a/a/a/a/a/a", "."} {
			if q := strings.TrimSuffix(r.path, "/") + s; !isPath(q) {
				wantNeither(t, r.path, q)
				wantNeither(t, q, r.path)
			}
		}
	}
}

// key is less than that of another path, bytewise, if the path comes before the other one: what stands before a name is less than all bytes of names.
func key(p string) string {
	if p == "/" {
		return ""
	}
	return strings.ReplaceAll(p, "/", "\x00")
}

func isBelow(p, q string) bool { return p != q && strings.HasPrefix(key(q), key(p)+"\x00") }

// manyPaths are different paths in mixed order: with all names of chosen ones, and with the extreme numbers of names and bytes.
func manyPaths() []string {
	names := []string{"a", "a-", "a-b", "a0", "aa", "ab", "a_", "b", "-", "_", "0", "z"}
	l := []string{"/"}
	for _, r := range rows {
		l = append(l, r.path)
	}
	for _, c := range pairs {
		l = append(l, c.p, c.q)
	}
	for _, x := range names {
		l = append(l, "/"+x)
		for _, y := range names {
			l = append(l, "/"+x+"/"+y)
		}
		for _, y := range names[:6] {
			for _, z := range names[:3] {
				l = append(l, "/"+x+"/"+y+"/"+z)
			}
		}
	}
	random := rand.New(rand.NewPCG(8, 2))
	for range 100 {
		l = append(l, anyPath(random))
	}
	slices.Sort(l)
	l = slices.Compact(l)
	random.Shuffle(len(l), func(i, j int) { l[i], l[j] = l[j], l[i] })
	return l
}

// anyPath is a path of few different names, so that many of them begin alike.
func anyPath(r *rand.Rand) string {
	p := "/"
	for range r.IntN(9) {
		p = pathOf(append(namesOf(p), []string{"a", "-", "a-a", "aa", "a-"}[r.IntN(5)])...)
	}
	return p
}

func namesOf(p string) []string {
	if p == "/" {
		return nil
	}
	return strings.Split(p[1:], "/")
}

// aheadOf tells of each two of the paths whether the first one comes before the second one.
func aheadOf(l []string) [][]bool {
	table := make([][]bool, len(l))
	for i, p := range l {
		table[i] = make([]bool, len(l))
		for j, q := range l {
			table[i][j] = path.Ahead(p, q)
		}
	}
	return table
}

func TestOneComesBeforeTheOther(t *testing.T) {
	l := manyPaths()
	ahead := aheadOf(l)
	for i, p := range l {
		for j, q := range l {
			if i != j && ahead[i][j] == ahead[j][i] || i == j && ahead[i][j] {
				t.Errorf("%q, %q: %v, %v", p, q, ahead[i][j], ahead[j][i])
			}
			if want := key(p) < key(q); ahead[i][j] != want {
				t.Errorf("Ahead(%q, %q) = %v", p, q, ahead[i][j])
			}
			if got := path.Below(p, q); got != isBelow(p, q) {
				t.Errorf("Below(%q, %q) = %v", p, q, got)
			}
		}
	}
}

func TestOrderIsTransitive(t *testing.T) {
	l := manyPaths()
	ahead := aheadOf(l)
	for i := range l {
		for j := range l {
			if !ahead[i][j] {
				continue
			}
			for k := range l {
				if ahead[j][k] && !ahead[i][k] {
					t.Errorf("%q, %q, %q", l[i], l[j], l[k])
				}
			}
		}
	}
}

// The sorted paths below a path stand right behind it, with no other one between them.
func TestPathsBelowAreConsecutive(t *testing.T) {
	l := manyPaths()
	slices.SortFunc(l, func(p, q string) int {
		switch {
		case path.Ahead(p, q):
			return -1
		case path.Ahead(q, p):
			return 1
		}
		return 0
	})
	for i, p := range l {
		below := 0
		for _, q := range l {
			if path.Below(p, q) != isBelow(p, q) {
				t.Fatalf("Below(%q, %q) = %v", p, q, path.Below(p, q))
			}
			if isBelow(p, q) {
				below++
				if !path.Ahead(p, q) || path.Ahead(q, p) {
					t.Errorf("%q does not come before %q", p, q)
				}
			}
		}
		for _, q := range l[i+1 : i+1+below] {
			if !isBelow(p, q) {
				t.Errorf("%q is not below %q, but stands among those that are", q, p)
			}
		}
	}
}

func FuzzText(f *testing.F) {
	for _, r := range rows {
		f.Add(r.path)
	}
	for _, s := range []string{"", "a", "/a/", "//", "/A", "/\xff", pathOfBytes(101), "/1/2/3/4/5/6/7/8/9"} {
		f.Add(s)
	}
	f.Fuzz(func(t *testing.T, s string) {
		wantAsFormed(t, s)
		if got := path.IsName(s); got != nameForm.MatchString(s) {
			t.Errorf("IsName(%q) = %v", s, got)
		}
	})
}

func FuzzTwoTexts(f *testing.F) {
	for _, c := range pairs {
		f.Add(c.p, c.q)
	}
	f.Add("/", "a")
	f.Add("", "a")
	f.Add("/a", "b/c")
	f.Add("/a", "/a/")
	f.Add(pathOfBytes(98), "ab")
	f.Fuzz(func(t *testing.T, p, q string) {
		both := isPath(p) && isPath(q)
		if got := path.Below(p, q); got != (both && isBelow(p, q)) {
			t.Errorf("Below(%q, %q) = %v", p, q, got)
		}
		if got := path.Ahead(p, q); got != (both && key(p) < key(q)) {
			t.Errorf("Ahead(%q, %q) = %v", p, q, got)
		}
		joined, e := path.Join(p, q)
		want := strings.TrimSuffix(p, "/") + "/" + q
		if !isPath(p) || !nameForm.MatchString(q) || !isPath(want) {
			if joined != "" || e != api.ErrName {
				t.Errorf("Join(%q, %q) = %q, %d", p, q, joined, e)
			}
			return
		}
		if joined != want || e != api.OK {
			t.Errorf("Join(%q, %q) = %q, %d", p, q, joined, e)
		}
	})
}
