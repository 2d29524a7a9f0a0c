package lease_test

import (
	"fmt"
	"maps"
	"math"
	"math/rand/v2"
	"slices"
	"testing"

	"consistory/api"
	"consistory/lease"
)

const (
	maxTime     = 1_000_000_000
	maxSpan     = 1000
	maxSessions = 50
)

var (
	numbers    = []int{math.MinInt, math.MinInt + 1, -maxTime, -1000, -2, -1, 0, 1, 2, 3, 7, 100, 999, 1000, 1001, maxTime - 1, maxTime, maxTime + 1, math.MaxInt - 1, math.MaxInt}
	wrongIds   = []int{0, -1, -2, -50, -maxTime, math.MinInt, math.MinInt + 1}
	wrongSpans = []int{0, 1001, -1, 1002, -1000, 1 << 16, maxTime, 1<<32 + 1, math.MinInt, math.MaxInt}
)

func bookOf(now int, l ...lease.Session) lease.Book { return lease.Book{Now: now, L: l} }

// fresh is a session that is opened, or touched, at this time.
func fresh(now, id, span int) lease.Session {
	return lease.Session{Id: id, Span: span, Until: now + span}
}

// full is a book with n sessions with the Ids 3, 5, 7 and so on, whose spans and times differ.
func full(now, n int) lease.Book {
	b := lease.Book{Now: now}
	for i := range n {
		span := 1 + i*37%maxSpan
		b.L = append(b.L, lease.Session{Id: 3 + 2*i, Span: span, Until: now + 1 + i*i%span})
	}
	return b
}

func idsOf(b lease.Book) []int {
	var l []int
	for _, s := range b.L {
		l = append(l, s.Id)
	}
	return l
}

func session(b lease.Book, id int) lease.Session {
	for _, s := range b.L {
		if s.Id == id {
			return s
		}
	}
	return lease.Session{}
}

// with is b with the session s in place of that with its Id, or added.
func with(b lease.Book, s lease.Session) lease.Book {
	r := without(b, s.Id)
	r.L = append(r.L, s)
	slices.SortFunc(r.L, func(a, b lease.Session) int { return a.Id - b.Id })
	return r
}

// without is b without the sessions with these Ids.
func without(b lease.Book, ids ...int) lease.Book {
	r := lease.Book{Now: b.Now}
	for _, s := range b.L {
		if !slices.Contains(ids, s.Id) {
			r.L = append(r.L, s)
		}
	}
	return r
}

func equal(a, b lease.Book) bool { return a.Now == b.Now && slices.Equal(a.L, b.L) }

// guarded is a copy of b with room beyond its length, which guard checks.
func guarded(b lease.Book) lease.Book {
	l := make([]lease.Session, len(b.L), len(b.L)+3)
	copy(l, b.L)
	for i := range l[:cap(l)][len(l):] {
		l[:cap(l)][len(l)+i] = lease.Session{Id: -5, Span: i}
	}
	return lease.Book{Now: b.Now, L: l}
}

// guard checks that the guarded copy of b has stayed as it was, and that it shares no memory with the result r.
func guard(t *testing.T, b, copied, r lease.Book) {
	t.Helper()
	kept := slices.Clone(r.L)
	whole := r.L[:cap(r.L)]
	for i := range whole {
		whole[i] = lease.Session{Id: -6, Span: -6, Until: -6}
	}
	if !equal(copied, b) {
		t.Errorf("the book that was given is now %v, was %v", copied, b)
	}
	for i, s := range copied.L[:cap(copied.L)][len(copied.L):] {
		if s != (lease.Session{Id: -5, Span: i}) {
			t.Errorf("beyond the book that was given: %v", s)
		}
	}
	copy(r.L, kept)
}

func open(t *testing.T, b lease.Book, id, span int) (lease.Book, api.Errno) {
	t.Helper()
	c := guarded(b)
	r, e := lease.Open(c, id, span)
	guard(t, b, c, r)
	return r, e
}

func touch(t *testing.T, b lease.Book, id int) (lease.Book, api.Errno) {
	t.Helper()
	c := guarded(b)
	r, e := lease.Touch(c, id)
	guard(t, b, c, r)
	return r, e
}

func closed(t *testing.T, b lease.Book, id int) (lease.Book, api.Errno) {
	t.Helper()
	c := guarded(b)
	r, e := lease.Close(c, id)
	guard(t, b, c, r)
	return r, e
}

func tick(t *testing.T, b lease.Book, now int) (lease.Book, []int, api.Errno) {
	t.Helper()
	c := guarded(b)
	r, ids, e := lease.Tick(c, now)
	guard(t, b, c, r)
	return r, ids, e
}

// want checks the result of a change: this book, which is valid, and no error.
func want(t *testing.T, what string, got lease.Book, e api.Errno, b lease.Book) {
	t.Helper()
	if e != api.OK || !equal(got, b) {
		t.Errorf("%s: %v, %d; not %v", what, got, e, b)
	}
	if !lease.Right(got) {
		t.Errorf("%s: %v is not valid", what, got)
	}
}

// wantError checks the result of a change with an error: the book that was given.
func wantError(t *testing.T, what string, got lease.Book, e, wanted api.Errno, b lease.Book) {
	t.Helper()
	if e != wanted {
		t.Errorf("%s: error %d, not %d", what, e, wanted)
	}
	if !equal(got, b) {
		t.Errorf("%s: with error %d, %v, not %v", what, e, got, b)
	}
}

// wantTick checks one tick: the sessions with these Ids end, and all others stay.
func wantTick(t *testing.T, b lease.Book, now int, ids ...int) lease.Book {
	t.Helper()
	r, got, e := tick(t, b, now)
	left := without(b, ids...)
	left.Now = now
	want(t, fmt.Sprintf("tick from %d to %d", b.Now, now), r, e, left)
	if !slices.Equal(got, ids) {
		t.Errorf("tick from %d to %d: %v ended, not %v", b.Now, now, got, ids)
	}
	return r
}

func wantNoTick(t *testing.T, b lease.Book, now int, wanted api.Errno) {
	t.Helper()
	r, ids, e := tick(t, b, now)
	wantError(t, fmt.Sprintf("tick from %d to %d", b.Now, now), r, e, wanted, b)
	if len(ids) != 0 {
		t.Errorf("tick from %d to %d: with error %d, %v", b.Now, now, e, ids)
	}
}

func wantRight(t *testing.T, b lease.Book, want bool) {
	t.Helper()
	if got := lease.Right(b); got != want {
		t.Errorf("Right(%v) = %v", b, got)
	}
}

func TestNew(t *testing.T) {
	b := lease.New()
	if b.Now != 0 || len(b.L) != 0 || !lease.Right(b) {
		t.Errorf("%v", b)
	}
	b.Now = 7
	b.L = append(b.L, fresh(7, 1, 1))
	if b := lease.New(); b.Now != 0 || len(b.L) != 0 {
		t.Errorf("after a change: %v", b)
	}
}

func TestRightOfEachNumberOfSessions(t *testing.T) {
	for _, now := range []int{0, 1, 100, maxTime} {
		for n := range 120 {
			wantRight(t, full(now, n), n <= 50)
		}
		for n, want := range map[int]bool{0: true, 1: true, 49: true, 50: true, 51: false, 256: false, 1 << 16: false} {
			b := lease.Book{Now: now}
			for i := range n {
				b.L = append(b.L, fresh(now, i+1, 1000))
			}
			wantRight(t, b, want)
		}
	}
	wantRight(t, lease.Book{L: []lease.Session{}}, true)
}

func TestRightOfTimes(t *testing.T) {
	for now, want := range map[int]bool{
		-1: false, 0: true, 1: true, 1000: true, maxTime - 1: true, maxTime: true, maxTime + 1: false, maxTime + 1000: false,
		-2: false, -1000: false, -maxTime: false, math.MinInt: false, math.MinInt + 1: false, math.MaxInt: false, math.MaxInt - 1000: false, 1 << 32: false,
	} {
		for _, n := range []int{0, 1, 2, 50} {
			wantRight(t, full(now, n), want)
		}
		wantRight(t, bookOf(now, fresh(now, 1, 1)), want)
		wantRight(t, bookOf(now, fresh(now, 1, 1000)), want)
	}
}

func TestRightOfIds(t *testing.T) {
	for _, c := range []struct {
		ids  []int
		want bool
	}{
		{[]int{1}, true}, {[]int{2}, true}, {[]int{maxTime + 1}, true}, {[]int{math.MaxInt}, true},
		{[]int{0}, false}, {[]int{-1}, false}, {[]int{math.MinInt}, false},
		{[]int{1, 2}, true}, {[]int{1, 3}, true}, {[]int{1, math.MaxInt}, true}, {[]int{math.MaxInt - 1, math.MaxInt}, true},
		{[]int{0, 1}, false}, {[]int{-1, 1}, false}, {[]int{math.MinInt, 1}, false}, {[]int{-2, -1}, false}, {[]int{0, 0}, false},
		{[]int{1, 1}, false}, {[]int{2, 1}, false}, {[]int{1, 0}, false}, {[]int{1, -1}, false}, {[]int{math.MaxInt, math.MinInt}, false}, {[]int{math.MaxInt, 1}, false},
		{[]int{1, 2, 3}, true}, {[]int{5, 50, 500}, true},
		{[]int{1, 2, 2}, false}, {[]int{1, 1, 2}, false}, {[]int{1, 2, 1}, false}, {[]int{1, 3, 2}, false}, {[]int{2, 1, 3}, false}, {[]int{3, 2, 1}, false}, {[]int{5, 6, 4}, false},
		{[]int{1, 2, 3, 4, 5, 6, 7, 7}, false}, {[]int{1, 2, 3, 5, 4, 6, 7, 8}, false}, {[]int{2, 3, 4, 5, 6, 7, 8, 1}, false},
	} {
		var b lease.Book
		for _, id := range c.ids {
			b.L = append(b.L, fresh(0, id, 10))
		}
		wantRight(t, b, c.want)
	}
}

func TestRightOfSpans(t *testing.T) {
	for _, now := range []int{0, 100, maxTime} {
		for span := -10; span <= 1100; span++ {
			right := 1 <= span && span <= 1000
			wantRight(t, bookOf(now, lease.Session{Id: 1, Span: span, Until: now + span}), right)
			wantRight(t, bookOf(now, lease.Session{Id: 1, Span: span, Until: now + 1}), right)
		}
		for _, span := range wrongSpans {
			wantRight(t, bookOf(now, lease.Session{Id: 1, Span: span, Until: now + 1}), false)
			wantRight(t, bookOf(now, lease.Session{Id: 1, Span: span, Until: now + span}), false)
			wantRight(t, bookOf(now, lease.Session{Id: 1, Span: span, Until: now + 1000}), false)
		}
	}
}

func TestRightOfUntil(t *testing.T) {
	for _, now := range []int{0, 1, 100, maxTime - 1, maxTime} {
		for _, span := range []int{1, 2, 3, 500, 999, 1000} {
			for until, want := range map[int]bool{
				now + 1: true, now + span: true, (now + 1 + now + span) / 2: true,
				now: false, now - 1: false, now + span + 1: false, now + span + 2: false, now + 1001: false,
				-1: false, math.MinInt: false, math.MaxInt: false, -maxTime: false,
			} {
				wantRight(t, bookOf(now, lease.Session{Id: 1, Span: span, Until: until}), want)
			}
			for until := now - 3; until <= now+span+3; until++ {
				wantRight(t, bookOf(now, lease.Session{Id: 1, Span: span, Until: until}), now < until && until <= now+span)
			}
		}
	}
}

// One bad session at each place among good ones.
func TestRightOfOneBadSession(t *testing.T) {
	for _, now := range []int{0, 100, maxTime} {
		for _, n := range []int{1, 2, 3, 50} {
			for i := range n {
				good := full(now, n)
				wantRight(t, good, true)
				for what, fault := range map[string]func(s *lease.Session){
					"id 0":            func(s *lease.Session) { s.Id = 0 },
					"id -1":           func(s *lease.Session) { s.Id = -1 },
					"id of another":   func(s *lease.Session) { s.Id = good.L[(i+1)%n].Id },
					"span 0":          func(s *lease.Session) { s.Span = 0 },
					"span 1001":       func(s *lease.Session) { s.Span = 1001 },
					"until now":       func(s *lease.Session) { s.Until = now },
					"until above":     func(s *lease.Session) { s.Until = now + s.Span + 1 },
					"until 0":         func(s *lease.Session) { s.Until = 0 },
					"until far above": func(s *lease.Session) { s.Until = math.MaxInt },
				} {
					bad := guarded(good)
					fault(&bad.L[i])
					if bad.L[i] != good.L[i] && lease.Right(bad) {
						t.Errorf("%d sessions at %d, the one at %d with %s: valid", n, now, i, what)
					}
				}
			}
		}
	}
}

func TestHas(t *testing.T) {
	for _, b := range []lease.Book{lease.New(), full(0, 1), full(9, 2), full(100, 3), full(100, 20), full(maxTime, 50), bookOf(0, fresh(0, 1, 1)), bookOf(5, fresh(5, 1, 2), fresh(5, math.MaxInt, 3))} {
		for id := -3; id <= 130; id++ {
			if got := lease.Has(b, id); got != slices.Contains(idsOf(b), id) {
				t.Errorf("Has(%v, %d) = %v", b, id, got)
			}
		}
		for _, id := range numbers {
			if got := lease.Has(b, id); got != slices.Contains(idsOf(b), id) {
				t.Errorf("Has(%v, %d) = %v", b, id, got)
			}
		}
	}
}

func TestSame(t *testing.T) {
	other := []func(b *lease.Book){
		func(b *lease.Book) { b.Now++ },
		func(b *lease.Book) { b.Now = -b.Now - 1 },
		func(b *lease.Book) { b.L = append(b.L, fresh(b.Now, 1000, 7)) },
		func(b *lease.Book) { b.L = slices.Insert(b.L, 0, fresh(b.Now, 1, 7)) },
		func(b *lease.Book) { b.L = append(b.L, lease.Session{}) },
	}
	for i := range 50 {
		other = append(other,
			func(b *lease.Book) { b.L[i%len(b.L)].Id++ },
			func(b *lease.Book) { b.L[i%len(b.L)].Span++ },
			func(b *lease.Book) { b.L[i%len(b.L)].Until++ },
			func(b *lease.Book) { b.L = slices.Delete(b.L, i%len(b.L), i%len(b.L)+1) })
	}
	for _, b := range []lease.Book{full(0, 1), full(7, 2), full(100, 3), full(maxTime, 50)} {
		if !lease.Same(b, b) || !lease.Same(b, guarded(b)) || !lease.Same(guarded(b), b) {
			t.Errorf("%v is not the same as itself", b)
		}
		for i, change := range other {
			c := guarded(b)
			change(&c)
			if lease.Same(b, c) || lease.Same(c, b) {
				t.Errorf("change %d: %v, %v", i, b, c)
			}
		}
	}
}

func TestSameOfBooksWithoutSessions(t *testing.T) {
	none, empty := lease.Book{Now: 5}, lease.Book{Now: 5, L: []lease.Session{}}
	if !lease.Same(none, empty) || !lease.Same(empty, none) || !lease.Same(none, none) {
		t.Errorf("a nil and an empty slice are not the same")
	}
	for _, b := range []lease.Book{{}, {Now: 6}, {Now: -5}, full(5, 1)} {
		if lease.Same(none, b) || lease.Same(b, none) || lease.Same(b, empty) {
			t.Errorf("%v is the same as %v", b, none)
		}
	}
}

// Books that are not valid are compared, too.
func TestSameOfWrongBooks(t *testing.T) {
	a := bookOf(-1, fresh(0, 5, 5000), fresh(0, 5, 1), fresh(0, 2, 1))
	if !lease.Same(a, guarded(a)) {
		t.Errorf("%v is not the same as itself", a)
	}
	if b := bookOf(-1, a.L[1], a.L[0], a.L[2]); lease.Same(a, b) {
		t.Errorf("%v is the same as %v", a, b)
	}
}

func TestOpen(t *testing.T) {
	for _, now := range []int{0, 1, 100, maxTime - 1, maxTime} {
		for _, n := range []int{0, 1, 2, 3, 20, 48, 49} {
			b := full(now, n)
			for id := 1; id <= 2*n+5; id++ {
				if id%2 == 1 && id > 1 && id < 2*n+3 {
					continue
				}
				for _, span := range []int{1, 2, 500, 999, 1000} {
					r, e := open(t, b, id, span)
					want(t, fmt.Sprintf("open %d, span %d, at %d", id, span, now), r, e, with(b, fresh(now, id, span)))
				}
			}
			r, e := open(t, b, math.MaxInt, 9)
			want(t, "open the greatest id", r, e, bookOf(now, append(slices.Clone(b.L), fresh(now, math.MaxInt, 9))...))
		}
	}
}

func TestOpenOfEachSpan(t *testing.T) {
	for span := 1; span <= 1000; span++ {
		r, e := open(t, full(100, 3), 4, span)
		want(t, fmt.Sprintf("span %d", span), r, e, with(full(100, 3), fresh(100, 4, span)))
	}
}

// Sessions that are opened in any order are in the order of their Ids; there are up to 50.
func TestOpenUntilFull(t *testing.T) {
	for seed := range uint64(10) {
		b := lease.Book{Now: int(seed) * 100}
		wanted := b
		for i, k := range rand.New(rand.NewPCG(seed, 10)).Perm(60) {
			r, e := open(t, b, k+1, 15*i+1)
			if i >= maxSessions {
				wantError(t, "open one more", r, e, api.ErrFull, b)
				continue
			}
			wanted = with(wanted, fresh(b.Now, k+1, 15*i+1))
			want(t, fmt.Sprintf("open number %d", i+1), r, e, wanted)
			b = r
		}
		first := b.L[0].Id
		r, e := closed(t, b, first)
		want(t, "close of one of 50", r, e, without(b, first))
		again, e := open(t, r, first, 5)
		want(t, "open in its place", again, e, with(b, fresh(b.Now, first, 5)))
	}
}

// Every set of errors that can occur at once: the one that the chapter names first.
func TestOpenErrors(t *testing.T) {
	for _, now := range []int{0, 100, maxTime} {
		for _, n := range []int{0, 1, 3, 49, 50} {
			b := full(now, n)
			for _, id := range append([]int{1, 2, 3, 4, 5, 6, 50, 51, 99, 100, 101, 102, 103, math.MaxInt}, wrongIds...) {
				for _, span := range append([]int{1, 2, 999, 1000}, wrongSpans...) {
					wanted := api.OK
					switch {
					case slices.Contains(wrongIds, id), slices.Contains(wrongSpans, span):
						wanted = api.ErrArg
					case slices.Contains(idsOf(b), id):
						wanted = api.ErrExists
					case n == 50:
						wanted = api.ErrFull
					default:
						continue
					}
					r, e := open(t, b, id, span)
					wantError(t, fmt.Sprintf("open %d, span %d, of %d sessions", id, span, n), r, e, wanted, b)
				}
			}
		}
	}
}

func TestOpenErrorsInTheirOrder(t *testing.T) {
	some, all := full(100, 3), full(100, 50)
	for _, c := range []struct {
		what     string
		b        lease.Book
		id, span int
		want     api.Errno
	}{
		{"the id alone", some, 0, 5, api.ErrArg},
		{"a span of 0 alone", some, 4, 0, api.ErrArg},
		{"a span of 1001 alone", some, 4, 1001, api.ErrArg},
		{"an id that exists alone", some, 5, 5, api.ErrExists},
		{"a full book alone", all, 4, 5, api.ErrFull},
		{"the id and the span", some, 0, 0, api.ErrArg},
		{"the id and a full book", all, 0, 5, api.ErrArg},
		{"the span and an id that exists", some, 5, 0, api.ErrArg},
		{"the span and an id that exists", some, 5, 1001, api.ErrArg},
		{"the span and a full book", all, 4, 0, api.ErrArg},
		{"the span and a full book", all, 4, 1001, api.ErrArg},
		{"an id that exists and a full book", all, 5, 5, api.ErrExists},
		{"the span, an id that exists and a full book", all, 5, 1001, api.ErrArg},
		{"the id, the span and a full book", all, -1, 0, api.ErrArg},
	} {
		r, e := open(t, c.b, c.id, c.span)
		wantError(t, c.what, r, e, c.want, c.b)
	}
}

func TestTouchOfEachSession(t *testing.T) {
	for _, now := range []int{0, 100, maxTime - 1, maxTime} {
		for _, n := range []int{1, 2, 3, 50} {
			b := full(now, n)
			for _, s := range b.L {
				r, e := touch(t, b, s.Id)
				want(t, fmt.Sprintf("touch %d of %d at %d", s.Id, n, now), r, e, with(b, fresh(now, s.Id, s.Span)))
				again, e := touch(t, r, s.Id)
				want(t, "touch it again", again, e, r)
			}
		}
	}
}

// An opened session is as if it were touched; later on, a touch moves its end.
func TestTouchAfterOpen(t *testing.T) {
	b, e := open(t, full(100, 3), 4, 20)
	want(t, "open", b, e, with(full(100, 3), fresh(100, 4, 20)))
	r, e := touch(t, b, 4)
	want(t, "touch at once", r, e, b)
	for now := 101; now < 120; now++ {
		later, _, e := tick(t, b, now)
		if e != api.OK || session(later, 4).Until != 120 {
			t.Fatalf("at %d: %v, %d", now, later, e)
		}
		r, e := touch(t, later, 4)
		want(t, "touch", r, e, with(later, lease.Session{Id: 4, Span: 20, Until: now + 20}))
	}
}

func TestCloseOfEachSession(t *testing.T) {
	for _, now := range []int{0, 100, maxTime} {
		for _, n := range []int{1, 2, 3, 50} {
			b := full(now, n)
			for _, s := range b.L {
				r, e := closed(t, b, s.Id)
				want(t, fmt.Sprintf("close %d of %d at %d", s.Id, n, now), r, e, without(b, s.Id))
				if lease.Has(r, s.Id) {
					t.Errorf("%d is closed, and exists", s.Id)
				}
				again, e := closed(t, r, s.Id)
				wantError(t, "close it again", again, e, api.ErrLease, r)
				again, e = touch(t, r, s.Id)
				wantError(t, "touch it", again, e, api.ErrLease, r)
				again, e = open(t, r, s.Id, 77)
				want(t, "open it again", again, e, with(r, fresh(now, s.Id, 77)))
			}
		}
	}
}

func TestCloseOfAll(t *testing.T) {
	b := full(100, 50)
	for n := 50; n > 0; n-- {
		id := b.L[n-1].Id
		if n%3 == 0 {
			id = b.L[n/2].Id
		}
		r, e := closed(t, b, id)
		want(t, fmt.Sprintf("close %d", id), r, e, without(b, id))
		if b = r; len(b.L) != n-1 {
			t.Fatalf("%d sessions are left, not %d", len(b.L), n-1)
		}
	}
	if !lease.Same(b, lease.Book{Now: 100}) {
		t.Errorf("%v", b)
	}
}

func TestTouchAndCloseOfNoSession(t *testing.T) {
	for _, b := range []lease.Book{lease.New(), full(0, 1), full(100, 2), full(100, 3), full(maxTime, 50)} {
		ids := append([]int{1, 2, 4, 6, 8, 50, 100, 102, 103, 104}, numbers...)
		for _, id := range ids {
			if slices.Contains(idsOf(b), id) {
				continue
			}
			r, e := touch(t, b, id)
			wantError(t, fmt.Sprintf("touch %d", id), r, e, api.ErrLease, b)
			r, e = closed(t, b, id)
			wantError(t, fmt.Sprintf("close %d", id), r, e, api.ErrLease, b)
		}
	}
}

func TestTick(t *testing.T) {
	b := bookOf(100,
		lease.Session{Id: 2, Span: 10, Until: 107},
		lease.Session{Id: 3, Span: 5, Until: 103},
		lease.Session{Id: 5, Span: 9, Until: 107},
		lease.Session{Id: 8, Span: 4, Until: 101},
		lease.Session{Id: 9, Span: 100, Until: 200},
		lease.Session{Id: 11, Span: 7, Until: 107},
		lease.Session{Id: math.MaxInt, Span: 3, Until: 103},
	)
	for _, c := range []struct {
		now int
		ids []int
	}{
		{100, nil},
		{101, []int{8}}, {102, []int{8}},
		{103, []int{3, 8, math.MaxInt}}, {104, []int{3, 8, math.MaxInt}}, {106, []int{3, 8, math.MaxInt}},
		{107, []int{2, 3, 5, 8, 11, math.MaxInt}}, {108, []int{2, 3, 5, 8, 11, math.MaxInt}}, {199, []int{2, 3, 5, 8, 11, math.MaxInt}},
		{200, []int{2, 3, 5, 8, 9, 11, math.MaxInt}}, {201, []int{2, 3, 5, 8, 9, 11, math.MaxInt}},
		{1 << 20, []int{2, 3, 5, 8, 9, 11, math.MaxInt}},
		{maxTime - 1, []int{2, 3, 5, 8, 9, 11, math.MaxInt}}, {maxTime, []int{2, 3, 5, 8, 9, 11, math.MaxInt}},
	} {
		wantTick(t, b, c.now, c.ids...)
	}
	b = wantTick(t, b, 101, 8)
	b = wantTick(t, b, 102)
	b = wantTick(t, b, 103, 3, math.MaxInt)
	b = wantTick(t, b, 103)
	b = wantTick(t, b, 106)
	b = wantTick(t, b, 107, 2, 5, 11)
	b = wantTick(t, b, 199)
	b = wantTick(t, b, 200, 9)
	b = wantTick(t, b, maxTime)
	wantTick(t, b, maxTime)
}

// An Until that is just the new time, and one above it and one below it.
func TestTickToTheEnd(t *testing.T) {
	for _, now := range []int{0, 100, maxTime - 1000} {
		for _, to := range []int{now + 2, now + 3, now + 500, now + 998} {
			b := bookOf(now, lease.Session{Id: 1, Span: 1000, Until: to}, lease.Session{Id: 2, Span: 1000, Until: to + 1}, lease.Session{Id: 3, Span: 1000, Until: to - 1})
			wantTick(t, b, to, 1, 3)
			wantTick(t, b, to-1, 3)
			wantTick(t, b, to+1, 1, 2, 3)
		}
	}
}

func TestTickWithoutSessions(t *testing.T) {
	for _, now := range []int{0, 1, 7, maxTime} {
		for _, to := range []int{0, 1, 7, 8, maxTime - 1, maxTime} {
			if to >= now {
				wantTick(t, lease.Book{Now: now}, to)
			}
		}
	}
}

func TestTickOfEachBook(t *testing.T) {
	for _, now := range []int{0, 100, maxTime - 1001, maxTime - 20, maxTime} {
		for _, n := range []int{1, 2, 3, 50} {
			b := full(now, n)
			for to := now; to <= min(now+1001, maxTime); to++ {
				var ids []int
				for _, s := range b.L {
					if s.Until <= to {
						ids = append(ids, s.Id)
					}
				}
				wantTick(t, b, to, ids...)
			}
		}
	}
}

func TestTickBackAndTooFar(t *testing.T) {
	for _, now := range []int{0, 1, 100, maxTime - 1, maxTime} {
		for _, n := range []int{0, 1, 3, 50} {
			b := full(now, n)
			for _, to := range append([]int{now - 1, now - 2, now - 50}, numbers...) {
				switch {
				case to < now:
					wantNoTick(t, b, to, api.ErrStale)
				case to > maxTime:
					wantNoTick(t, b, to, api.ErrLarge)
				}
			}
		}
	}
}

// Books that are not valid make nothing panic, and are not changed.
func TestWrongBooks(t *testing.T) {
	for _, b := range []lease.Book{
		{Now: -1}, {Now: maxTime + 1}, {Now: math.MinInt}, {Now: math.MaxInt}, full(math.MaxInt, 3), full(math.MinInt, 3), full(0, 51), full(0, 300),
		bookOf(0, fresh(0, 5, 1), fresh(0, 2, 1), fresh(0, 2, 1), fresh(0, -3, 1)),
		bookOf(0, lease.Session{}), bookOf(0, lease.Session{Id: math.MinInt, Span: math.MaxInt, Until: math.MinInt}, lease.Session{Id: 1, Span: math.MaxInt, Until: math.MaxInt}),
	} {
		wantRight(t, b, false)
		for _, x := range numbers {
			lease.Has(b, x)
			touch(t, b, x)
			closed(t, b, x)
			tick(t, b, x)
			for _, y := range numbers {
				open(t, b, x, y)
			}
		}
		if !lease.Same(b, b) {
			t.Errorf("%v is not the same as itself", b)
		}
	}
}

func TestExample(t *testing.T) {
	b, e := lease.Open(lease.New(), 1, 3)
	if e != api.OK {
		t.Fatal(e)
	}
	at2, ids, e := lease.Tick(b, 2)
	if !lease.Has(at2, 1) || len(ids) != 0 || e != api.OK {
		t.Errorf("at 2: %v, %v, %d", at2, ids, e)
	}
	at3, ids, e := lease.Tick(b, 3)
	if lease.Has(at3, 1) || !slices.Equal(ids, []int{1}) || e != api.OK {
		t.Errorf("at 3: %v, %v, %d", at3, ids, e)
	}
	if at3, ids, e := lease.Tick(at2, 3); lease.Has(at3, 1) || !slices.Equal(ids, []int{1}) || e != api.OK {
		t.Errorf("at 2, then at 3: %v, %v, %d", at3, ids, e)
	}
}

func wantHas(t *testing.T, b lease.Book, id int, want bool) {
	t.Helper()
	if got := lease.Has(b, id); got != want {
		t.Errorf("at %d: Has of %d is %v", b.Now, id, got)
	}
}

// jump ticks to a time, whichever sessions end.
func jump(t *testing.T, b lease.Book, now int) lease.Book {
	t.Helper()
	r, _, e := tick(t, b, now)
	if e != api.OK {
		t.Fatalf("tick from %d to %d: %d", b.Now, now, e)
	}
	return r
}

// P10.2: a session of each span that is opened, among others, at some time.
func TestEachSpanSinceItWasOpened(t *testing.T) {
	for _, now := range []int{0, 100, maxTime - 3000} {
		for span := 1; span <= 1000; span++ {
			b, e := open(t, full(now, 5), 4, span)
			if e != api.OK {
				t.Fatal(e)
			}
			wantHas(t, b, 4, true)
			for _, after := range []int{0, 1, span / 2, span - 1, span, span + 1, span + 1000, 3000} {
				wantHas(t, jump(t, b, now+after), 4, after < span)
			}
			last := jump(t, b, now+span-1)
			wantHas(t, last, 4, true)
			wantHas(t, jump(t, last, now+span), 4, false)
		}
	}
}

// P10.2: sessions that are touched at some times after they were opened, and looked at at all times.
func TestEachTimeSinceItWasTouched(t *testing.T) {
	for _, span := range []int{1, 2, 3, 10, 100, 1000} {
		for _, gaps := range [][]int{nil, {0}, {1}, {span - 1}, {span / 2}, {1, 1, 1}, {span - 1, span - 1, span - 1}, {0, span - 1, 0}, {span / 3, span / 2, 1, span - 1}} {
			b, e := open(t, bookOf(50, fresh(50, 3, 1), fresh(50, 900, 1000)), 70, span)
			if e != api.OK {
				t.Fatal(e)
			}
			touched := 50
			for _, gap := range gaps {
				gap = min(gap, span-1)
				b = jump(t, b, touched+gap)
				wantHas(t, b, 70, true)
				b, e = touch(t, b, 70)
				if e != api.OK {
					t.Fatalf("span %d, touches %v: %d", span, gaps, e)
				}
				touched += gap
			}
			for now := touched; now <= touched+2*span+2; now++ {
				wantHas(t, jump(t, b, now), 70, now < touched+span)
			}
			for now := touched; now <= touched+2*span+2; now++ {
				b = jump(t, b, now)
				wantHas(t, b, 70, now < touched+span)
			}
			r, e := touch(t, b, 70)
			wantError(t, "touch when it has expired", r, e, api.ErrLease, b)
			wantHas(t, r, 70, false)
		}
	}
}

// P10.2: to touch, to open or to close other sessions prolongs none.
func TestOthersDoNotProlong(t *testing.T) {
	b, _ := open(t, lease.New(), 10, 5)
	b, _ = open(t, b, 30, 5)
	var e api.Errno
	for now := 1; now <= 20; now++ {
		b = jump(t, b, now)
		wantHas(t, b, 10, now < 5)
		wantHas(t, b, 30, true)
		if b, e = touch(t, b, 30); e != api.OK {
			t.Fatal(e)
		}
		for _, id := range []int{9, 11} {
			if b, e = open(t, b, id, 1000); e != api.OK {
				t.Fatal(e)
			}
			wantHas(t, b, 10, now < 5)
			if b, e = closed(t, b, id); e != api.OK {
				t.Fatal(e)
			}
		}
		wantHas(t, b, 10, now < 5)
	}
	wantTick(t, b, 24)
	wantTick(t, b, 25, 30)
}

// P10.2: an Id that is opened again has the span, and the time, of its last opening.
func TestOpenedAgain(t *testing.T) {
	b, _ := open(t, full(100, 2), 4, 3)
	b = jump(t, b, 103)
	wantHas(t, b, 4, false)
	b, e := open(t, b, 4, 6)
	if e != api.OK {
		t.Fatal(e)
	}
	wantHas(t, jump(t, b, 108), 4, true)
	wantHas(t, jump(t, b, 109), 4, false)
	b, _ = closed(t, jump(t, b, 105), 4)
	wantHas(t, b, 4, false)
	b, e = open(t, b, 4, 2)
	if e != api.OK {
		t.Fatal(e)
	}
	wantHas(t, jump(t, b, 106), 4, true)
	wantHas(t, jump(t, b, 107), 4, false)
}

// At the greatest time there is none at which a session could expire.
func TestAtTheGreatestTime(t *testing.T) {
	b, _ := open(t, lease.Book{Now: maxTime - 1}, 1, 1)
	b, _ = open(t, b, 2, 2)
	b = wantTick(t, b, maxTime, 1)
	r, e := open(t, b, 1, 1)
	want(t, "open at 10^9", r, e, bookOf(maxTime, fresh(maxTime, 1, 1), lease.Session{Id: 2, Span: 2, Until: maxTime + 1}))
	r = wantTick(t, r, maxTime)
	r, e = touch(t, r, 2)
	want(t, "touch at 10^9", r, e, bookOf(maxTime, fresh(maxTime, 1, 1), fresh(maxTime, 2, 2)))
	wantNoTick(t, r, maxTime+1, api.ErrLarge)
}

// history is when each session was last opened or touched, and its span: no end is kept, but worked out from P10.2.
type history struct {
	now      int
	sessions map[int]touched
}

type touched struct{ at, span int }

func historyOf(b lease.Book) history {
	h := history{b.Now, map[int]touched{}}
	for _, s := range b.L {
		h.sessions[s.Id] = touched{s.Until - s.Span, s.Span}
	}
	return h
}

func (h history) book() lease.Book {
	b := lease.Book{Now: h.now}
	for _, id := range slices.Sorted(maps.Keys(h.sessions)) {
		s := h.sessions[id]
		b.L = append(b.L, lease.Session{Id: id, Span: s.span, Until: s.at + s.span})
	}
	return b
}

const (
	stepOpen = iota
	stepTouch
	stepClose
	stepTick
	stepKinds
)

// step is one change: its kind, and its numbers (an Id or a time, and a span).
type step struct{ kind, n, span int }

// errorOf is the error that the chapter names first for a step.
func (h history) errorOf(c step) api.Errno {
	_, found := h.sessions[c.n]
	switch {
	case c.kind == stepTick && c.n < h.now:
		return api.ErrStale
	case c.kind == stepTick && c.n > 1_000_000_000:
		return api.ErrLarge
	case c.kind == stepTick:
		return api.OK
	case c.kind != stepOpen && !found:
		return api.ErrLease
	case c.kind != stepOpen:
		return api.OK
	case c.n < 1 || c.span < 1 || c.span > 1000:
		return api.ErrArg
	case found:
		return api.ErrExists
	case len(h.sessions) == 50:
		return api.ErrFull
	}
	return api.OK
}

// after is the history after a step without an error, and the Ids of the sessions that end.
func (h history) after(c step) (history, []int) {
	r := history{h.now, maps.Clone(h.sessions)}
	var ended []int
	switch c.kind {
	case stepOpen:
		r.sessions[c.n] = touched{h.now, c.span}
	case stepTouch:
		r.sessions[c.n] = touched{h.now, h.sessions[c.n].span}
	case stepClose:
		delete(r.sessions, c.n)
	case stepTick:
		r.now = c.n
		for id, s := range h.sessions {
			if c.n-s.at >= s.span {
				ended = append(ended, id)
				delete(r.sessions, id)
			}
		}
		slices.Sort(ended)
	}
	return r, ended
}

// take takes a step of the book of h and checks it: the error, all sessions, the Ids, that the book that was given stays, and that the result is valid.
func take(t *testing.T, h history, b lease.Book, c step) (history, lease.Book) {
	t.Helper()
	var r lease.Book
	var e api.Errno
	var ids []int
	switch c.kind {
	case stepOpen:
		r, e = open(t, b, c.n, c.span)
	case stepTouch:
		r, e = touch(t, b, c.n)
	case stepClose:
		r, e = closed(t, b, c.n)
	case stepTick:
		r, ids, e = tick(t, b, c.n)
	}
	after, ended := h, []int(nil)
	if wanted := h.errorOf(c); wanted != api.OK {
		wantError(t, fmt.Sprint(c), r, e, wanted, b)
	} else {
		after, ended = h.after(c)
		want(t, fmt.Sprint(c), r, e, after.book())
	}
	if !slices.Equal(ids, ended) {
		t.Errorf("%v: %v ended, not %v", c, ids, ended)
	}
	for _, id := range append(idsOf(b), c.n, c.n-1, c.n+1) {
		if _, found := after.sessions[id]; lease.Has(r, id) != found {
			t.Errorf("%v: Has of %d is %v", c, id, !found)
		}
	}
	return after, r
}

// randomStep is a step that has no error more often than not.
func randomStep(r *rand.Rand, b lease.Book) step {
	c := step{kind: r.IntN(stepKinds), n: 1 + r.IntN(80), span: 1 + r.IntN(30)}
	if r.IntN(6) == 0 {
		c.span = 1 + r.IntN(1000)
	}
	switch {
	case c.kind == stepTick:
		c.n = b.Now + r.IntN(4)
	case c.kind == stepOpen || len(b.L) == 0:
	case r.IntN(4) > 0:
		c.n = b.L[r.IntN(len(b.L))].Id
	}
	if c.kind == stepClose && r.IntN(3) > 0 {
		c.kind = stepOpen
	}
	switch r.IntN(20) {
	case 0:
		c.n = wrongIds[r.IntN(len(wrongIds))]
	case 1:
		c.span = wrongSpans[r.IntN(len(wrongSpans))]
	case 2:
		if c.kind != stepTick {
			c.n = numbers[r.IntN(len(numbers))]
		}
	case 3:
		if c.kind == stepTick {
			c.n = b.Now - 1 - r.IntN(5)
		}
	case 4:
		if c.kind == stepTick && b.Now > 500 {
			c.n = maxTime + 1 + r.IntN(5)
		}
	}
	return c
}

// P10.2: many sessions, which are opened, touched and closed at many times.
func TestManySteps(t *testing.T) {
	for seed := range uint64(60) {
		r := rand.New(rand.NewPCG(seed, 10))
		b := []lease.Book{lease.New(), full(100, 3), full(1000, 50), full(maxTime-200, 40)}[seed%4]
		h := historyOf(b)
		for range 400 {
			h, b = take(t, h, b, randomStep(r, b))
		}
	}
}

// A book that is mostly full: its sessions last longer.
func TestManyStepsOfFullBooks(t *testing.T) {
	r := rand.New(rand.NewPCG(1, 10))
	b := full(100, 45)
	h := historyOf(b)
	errors := 0
	for range 1500 {
		c := randomStep(r, b)
		if c.kind == stepOpen && c.span >= 1 && c.span <= 30 {
			c.span += 900
		}
		if h.errorOf(c) == api.ErrFull {
			errors++
		}
		h, b = take(t, h, b, c)
	}
	if errors < 20 {
		t.Errorf("%d steps found a full book", errors)
	}
}

// Each change of each session of several books, and of the Ids beside it.
func TestEachStepOfEachSession(t *testing.T) {
	for _, b := range []lease.Book{lease.New(), full(0, 1), full(7, 2), full(100, 20), full(maxTime-5, 49), full(maxTime, 50)} {
		h := historyOf(b)
		for _, s := range append([]lease.Session{{}}, b.L...) {
			for _, id := range []int{s.Id - 1, s.Id, s.Id + 1} {
				for _, span := range []int{0, 1, 1000, 1001} {
					for _, kind := range []int{stepOpen, stepTouch, stepClose} {
						take(t, h, b, step{kind, id, span})
					}
				}
			}
			for _, now := range []int{s.Until - 1, s.Until, s.Until + 1} {
				take(t, h, b, step{stepTick, now, 0})
			}
		}
	}
}

// isRight is the chapter's definition of a valid book, written out.
func isRight(b lease.Book) bool {
	right := b.Now >= 0 && b.Now <= 1_000_000_000 && len(b.L) <= 50
	for i, s := range b.L {
		right = right && s.Id >= 1 && s.Span >= 1 && s.Span <= 1000 && s.Until > b.Now && s.Until <= b.Now+s.Span
		for _, other := range b.L[:i] {
			right = right && other.Id < s.Id
		}
	}
	return right
}

// Valid books, and the same with one or two faults.
func TestRightOfManyBooks(t *testing.T) {
	r := rand.New(rand.NewPCG(2, 10))
	right := 0
	for range 5000 {
		b := full([]int{0, 100, maxTime}[r.IntN(3)], r.IntN(53))
		for range r.IntN(3) {
			if len(b.L) == 0 {
				b.Now = numbers[r.IntN(len(numbers))]
				continue
			}
			i, j := r.IntN(len(b.L)), r.IntN(len(b.L))
			switch r.IntN(7) {
			case 0:
				b.L[i], b.L[j] = b.L[j], b.L[i]
			case 1:
				b.L[i].Id += r.IntN(5) - 2
			case 2:
				b.L[i].Span += r.IntN(5) - 2
			case 3:
				b.L[i].Until += r.IntN(5) - 2
			case 4:
				b.Now += r.IntN(5) - 2
			case 5:
				b.L[i].Until = b.Now + b.L[i].Span + r.IntN(2)
			case 6:
				b.L[i].Span = numbers[r.IntN(len(numbers))]
			}
		}
		if isRight(b) {
			right++
		}
		wantRight(t, b, isRight(b))
	}
	if right < 1000 || right > 4000 {
		t.Errorf("%d of 5000 books are valid", right)
	}
}

// What is done to an answer is not to be seen in the next one.
func TestAnswersAreNew(t *testing.T) {
	b := full(100, 10)
	_, ids, _ := lease.Tick(b, 2000)
	_, other, _ := lease.Tick(b, 2000)
	for i := range ids {
		ids[i] = -1
	}
	_, again, _ := lease.Tick(b, 2000)
	if !slices.Equal(other, idsOf(b)) || !slices.Equal(again, idsOf(b)) {
		t.Errorf("%v, %v", other, again)
	}
}

func FuzzSteps(f *testing.F) {
	f.Add(0, []byte{0, 1, 3, 3, 2, 0, 1, 1, 0, 3, 3, 0})
	f.Add(maxTime-5, []byte("open, touch, close and tick"))
	f.Fuzz(func(t *testing.T, now int, l []byte) {
		b := lease.Book{Now: max(0, now) % (maxTime + 1)}
		h := historyOf(b)
		for len(l) >= 3 && len(l) < 1500 {
			c := step{int(l[0]) % stepKinds, int(l[1]) - 2, int(l[2]) * 4}
			if c.kind == stepTick {
				c.n += b.Now
			}
			h, b = take(t, h, b, c)
			l = l[3:]
		}
	})
}

func FuzzRight(f *testing.F) {
	f.Add(0, 1, 3, 3, 2, 1, 1)
	f.Add(maxTime, 1, 1000, maxTime+1000, 1, 1, maxTime+1)
	f.Add(-1, 0, 0, 0, 0, 0, 0)
	f.Fuzz(func(t *testing.T, now, id, span, until, id2, span2, until2 int) {
		b := bookOf(now, lease.Session{Id: id, Span: span, Until: until}, lease.Session{Id: id2, Span: span2, Until: until2})
		wantRight(t, b, isRight(b))
		b.L = b.L[:1]
		wantRight(t, b, isRight(b))
		for id := id - 1; id <= id2+1 && id < 1<<10 && isRight(b); id++ {
			if got := lease.Has(b, id); got != slices.Contains(idsOf(b), id) {
				t.Errorf("Has(%v, %d) = %v", b, id, got)
			}
		}
	})
}
