package size_test

import (
	"math"
	"math/bits"
	"math/rand/v2"
	"testing"

	"consistory/api"
	"consistory/size"
)

// row is a size and its numbers.
type row struct{ f, t, n, fast, proof, most, vouch, weak int }

func (r row) size() size.Size { return size.Size{F: r.f, T: r.t} }

// rows are all valid sizes.
var rows = []row{
	{1, 0, 4, 4, 3, 3, 2, 2},
	{1, 1, 6, 5, 4, 5, 3, 2},
	{2, 0, 7, 7, 5, 5, 3, 3},
	{2, 1, 9, 8, 6, 7, 4, 3},
	{2, 2, 11, 9, 7, 9, 5, 3},
	{3, 0, 10, 10, 7, 7, 4, 4},
	{3, 1, 12, 11, 8, 9, 5, 4},
	{3, 2, 14, 12, 9, 11, 6, 4},
	{3, 3, 16, 13, 10, 13, 7, 4},
	{4, 0, 13, 13, 9, 9, 5, 5},
	{4, 1, 15, 14, 10, 11, 6, 5},
	{4, 2, 17, 15, 11, 13, 7, 5},
	{4, 3, 19, 16, 12, 15, 8, 5},
	{4, 4, 21, 17, 13, 17, 9, 5},
	{5, 0, 16, 16, 11, 11, 6, 6},
	{5, 1, 18, 17, 12, 13, 7, 6},
	{5, 2, 20, 18, 13, 15, 8, 6},
	{5, 3, 22, 19, 14, 17, 9, 6},
	{5, 4, 24, 20, 15, 19, 10, 6},
	{5, 5, 26, 21, 16, 21, 11, 6},
}

// far are numbers that are no bound of anything: below and above all of them, and numbers whose low bits, or whose nearest float, are a number that may be.
var far = []int{
	6, 7, 8, 10, 27, 100, 255, 256, 257, 261, 1 << 31, 1 << 32, 1<<32 + 1, 1<<32 + 5, 1 << 53, 1<<53 + 1, 1 << 62, 1<<62 + 1,
	-1, -2, -3, -4, -5, -6, -255, -256, -1 << 31, -1 << 32, 1 - 1<<32, -1 << 53, -1 << 62, 1 - 1<<62,
	math.MinInt, math.MinInt + 1, math.MinInt + 5, math.MaxInt, math.MaxInt - 1, math.MaxInt - 5,
}

// wrongSizes are sizes that are not valid: F outside of its bounds, T outside of them, and both.
func wrongSizes() []size.Size {
	l := []size.Size{{}, {F: 0, T: 1}, {F: 0, T: 5}}
	for _, f := range far {
		l = append(l, size.Size{F: f, T: f}, size.Size{F: 0, T: f})
		for t := 0; t <= 6; t++ {
			l = append(l, size.Size{F: f, T: t})
		}
		for _, t := range far {
			l = append(l, size.Size{F: f, T: t})
		}
	}
	for f := 1; f <= 5; f++ {
		for t := f + 1; t <= 6; t++ {
			l = append(l, size.Size{F: f, T: t})
		}
		for _, t := range far {
			l = append(l, size.Size{F: f, T: t})
		}
	}
	return l
}

func TestNew(t *testing.T) {
	for f := 1; f <= 5; f++ {
		for n := 0; n <= f; n++ {
			if s, e := size.New(f, n); s != (size.Size{F: f, T: n}) || e != api.OK {
				t.Errorf("New(%d, %d) = %v, %d", f, n, s, e)
			}
		}
	}
	for _, r := range rows {
		if s, e := size.New(r.f, r.t); s != r.size() || e != api.OK {
			t.Errorf("New(%d, %d) = %v, %d", r.f, r.t, s, e)
		}
	}
}

func wantNoSize(t *testing.T, f, n int) {
	t.Helper()
	if s, e := size.New(f, n); s != (size.Size{}) || e != api.ErrArg {
		t.Errorf("New(%d, %d) = %v, %d", f, n, s, e)
	}
}

func TestNewOfAnotherF(t *testing.T) {
	for _, f := range []int{0, 6, -1, -5, math.MinInt, math.MaxInt} {
		for _, n := range []int{0, 1, 5, 6, -1, f, f - 1, f + 1, math.MinInt, math.MaxInt} {
			wantNoSize(t, f, n)
		}
	}
}

func TestNewOfAnotherT(t *testing.T) {
	for f := 1; f <= 5; f++ {
		for _, n := range []int{-1, -2, -f, f + 1, f + 2, 2 * f, 6, math.MinInt, math.MaxInt} {
			if n > f || n < 0 {
				wantNoSize(t, f, n)
			}
		}
	}
}

func TestNewOfWrongSizes(t *testing.T) {
	for _, s := range wrongSizes() {
		wantNoSize(t, s.F, s.T)
	}
}

func TestRight(t *testing.T) {
	valid := 0
	for f := -8; f <= 12; f++ {
		for n := -8; n <= 12; n++ {
			want := f >= 1 && f <= 5 && n >= 0 && n <= f
			if got := size.Right(size.Size{F: f, T: n}); got != want {
				t.Errorf("Right, F %d, T %d: %v", f, n, got)
			}
			if want {
				valid++
			}
		}
	}
	if valid != len(rows) {
		t.Errorf("%d valid sizes, not %d", valid, len(rows))
	}
	for _, r := range rows {
		if !size.Right(r.size()) {
			t.Errorf("%v is not right", r.size())
		}
	}
	for _, s := range wrongSizes() {
		if size.Right(s) {
			t.Errorf("%v is right", s)
		}
	}
}

func numbers(s size.Size) row {
	return row{s.F, s.T, size.N(s), size.Fast(s), size.Proof(s), size.Most(s), size.Vouch(s), size.Weak(s)}
}

func TestNumbers(t *testing.T) {
	for _, r := range rows {
		if got := numbers(r.size()); got != r {
			t.Errorf("%v, not %v", got, r)
		}
	}
}

// The numbers as the chapter words them.
func TestNumbersByTheirWords(t *testing.T) {
	for f := 1; f <= 5; f++ {
		for n := 0; n <= f; n++ {
			all := 3*f + 2*n + 1
			want := row{f, n, all, all - n, 2*f + n + 1, all - f, f + n + 1, f + 1}
			if got := numbers(size.Size{F: f, T: n}); got != want {
				t.Errorf("%v, not %v", got, want)
			}
		}
	}
}

func TestExample(t *testing.T) {
	s, e := size.New(1, 1)
	if e != api.OK || size.N(s) != 6 || size.Fast(s) != 5 || size.Proof(s) != 4 || size.Most(s) != 5 || size.Vouch(s) != 3 || size.Weak(s) != 2 {
		t.Errorf("F 1, T 1: %v, %d", numbers(s), e)
	}
}

// The chapter says nothing of sizes that are not valid; no call panics on one.
func TestNumbersOfWrongSizes(t *testing.T) {
	for _, s := range wrongSizes() {
		if got := numbers(s); got != (row{f: s.F, t: s.T}) {
			t.Errorf("%v: %v", s, got)
		}
		for _, x := range []int{0, 1, 4, 26, -1, math.MinInt, math.MaxInt} {
			if got := size.Leader(s, x); got != 0 {
				t.Errorf("Leader(%v, %d) = %d", s, x, got)
			}
			for _, y := range []int{0, 1, 4, 26, -1, math.MinInt, math.MaxInt} {
				if got := size.Meet(s, x, y); got != 0 {
					t.Errorf("Meet(%v, %d, %d) = %d", s, x, y, got)
				}
			}
		}
	}
}

// A group of replicas has a bit for each of them.
type group uint32

func (g group) count() int { return bits.OnesCount32(uint32(g)) }

func firstOf(a int) group { return 1<<a - 1 }

func lastOf(n, b int) group { return firstOf(n) &^ firstOf(n-b) }

// groups are all groups of a of n replicas.
func groups(n, a int) []group {
	var l []group
	for g := range group(1 << n) {
		if g.count() == a {
			l = append(l, g)
		}
	}
	return l
}

// anyGroup is one of a of n replicas.
func anyGroup(r *rand.Rand, n, a int) group {
	var g group
	for _, i := range r.Perm(n)[:a] {
		g |= 1 << i
	}
	return g
}

func wantMeet(t *testing.T, s size.Size, a, b, want int) {
	t.Helper()
	if got := size.Meet(s, a, b); got != want {
		t.Errorf("Meet(%v, %d, %d) = %d, not %d", s, a, b, got, want)
	}
}

func TestMeetOfOrdinaryGroups(t *testing.T) {
	for _, c := range []struct{ f, t, a, b, want int }{
		{1, 0, 3, 3, 2}, {1, 0, 4, 4, 4}, {1, 0, 4, 0, 0}, {1, 0, 0, 4, 0}, {1, 0, 2, 2, 0}, {1, 0, 2, 3, 1}, {1, 0, 1, 1, 0},
		{1, 1, 4, 4, 2}, {1, 1, 5, 4, 3}, {1, 1, 4, 5, 3}, {1, 1, 5, 5, 4}, {1, 1, 3, 3, 0}, {1, 1, 3, 4, 1}, {1, 1, 2, 3, 0},
		{2, 1, 6, 6, 3}, {2, 1, 8, 6, 5}, {2, 1, 7, 8, 6}, {2, 1, 4, 4, 0}, {2, 1, 4, 5, 0}, {2, 1, 5, 5, 1},
		{5, 5, 16, 16, 6}, {5, 5, 21, 16, 11}, {5, 5, 26, 26, 26}, {5, 5, 13, 13, 0}, {5, 5, 13, 14, 1}, {5, 5, 0, 0, 0},
	} {
		wantMeet(t, size.Size{F: c.f, T: c.t}, c.a, c.b, c.want)
	}
}

// The first a and the last b replicas have as few in common as any two groups.
func TestMeetOfEachTwoNumbers(t *testing.T) {
	for _, r := range rows {
		for a := 0; a <= r.n; a++ {
			for b := 0; b <= r.n; b++ {
				wantMeet(t, r.size(), a, b, (firstOf(a) & lastOf(r.n, b)).count())
				wantMeet(t, r.size(), a, b, max(a+b-r.n, 0))
			}
		}
	}
}

func TestMeetIsTheLeastOfAllGroups(t *testing.T) {
	for _, r := range rows {
		if r.n > 9 {
			continue
		}
		for a := 0; a <= r.n; a++ {
			for b := 0; b <= r.n; b++ {
				least := r.n
				for _, x := range groups(r.n, a) {
					for _, y := range groups(r.n, b) {
						least = min(least, (x & y).count())
					}
				}
				wantMeet(t, r.size(), a, b, least)
			}
		}
	}
}

func TestMeetClamps(t *testing.T) {
	for _, r := range rows {
		s := r.size()
		below := []int{-1, -2, -r.n, -r.n - 1, -1 << 32, math.MinInt, math.MinInt + 1, math.MinInt + r.n}
		above := []int{r.n + 1, r.n + 2, 2 * r.n, 1 << 32, 1<<53 + 1, math.MaxInt - r.n, math.MaxInt - 1, math.MaxInt}
		for _, x := range below {
			for b := 0; b <= r.n; b++ {
				wantMeet(t, s, x, b, 0)
				wantMeet(t, s, b, x, 0)
			}
			for _, y := range append(below, above...) {
				wantMeet(t, s, x, y, 0)
				wantMeet(t, s, y, x, 0)
			}
		}
		for _, x := range above {
			for b := 0; b <= r.n; b++ {
				wantMeet(t, s, x, b, b)
				wantMeet(t, s, b, x, b)
			}
			for _, y := range above {
				wantMeet(t, s, x, y, r.n)
			}
		}
	}
}

func wantLeader(t *testing.T, s size.Size, view, want int) {
	t.Helper()
	if got := size.Leader(s, view); got != want {
		t.Errorf("Leader(%v, %d) = %d, not %d", s, view, got, want)
	}
}

func TestLeaderOfKnownViews(t *testing.T) {
	for _, c := range []struct{ f, t, view, want int }{
		{1, 0, 0, 0}, {1, 0, 3, 3}, {1, 0, 4, 0}, {1, 0, 5, 1}, {1, 0, api.MaxView, 0}, {1, 0, math.MaxInt, 3},
		{1, 1, 5, 5}, {1, 1, 6, 0}, {1, 1, 7, 1}, {1, 1, api.MaxView, 4}, {1, 1, api.MaxView - 1, 3}, {1, 1, math.MaxInt, 1},
		{2, 0, 7, 0}, {2, 0, 20, 6}, {2, 0, math.MaxInt, 0}, {2, 1, 17, 8}, {2, 1, math.MaxInt, 7},
		{5, 5, 25, 25}, {5, 5, 26, 0}, {5, 5, 27, 1}, {5, 5, api.MaxView, 4}, {5, 5, math.MaxInt, 7},
	} {
		wantLeader(t, size.Size{F: c.f, T: c.t}, c.view, c.want)
	}
}

// The replicas lead in turn, from 0 on.
func TestLeaderOfEachView(t *testing.T) {
	for _, r := range rows {
		leader := 0
		for view := 0; view <= api.MaxView+100; view++ {
			wantLeader(t, r.size(), view, leader)
			if leader++; leader == r.n {
				leader = 0
			}
		}
		for _, view := range []int{1 << 31, 1 << 32, 1<<53 + 1, 1<<62 + 1, math.MaxInt - 1, math.MaxInt} {
			wantLeader(t, r.size(), view, view%r.n)
		}
	}
}

func TestLeaderOfNegativeViews(t *testing.T) {
	for _, r := range rows {
		for view := -1; view >= -3*r.n; view-- {
			wantLeader(t, r.size(), view, 0)
		}
		for _, view := range []int{-1 << 31, -1 << 32, -api.MaxView, math.MinInt, math.MinInt + 1, -math.MaxInt} {
			wantLeader(t, r.size(), view, 0)
		}
	}
}

// P7.2 in numbers, for every valid size.
func TestQuorums(t *testing.T) {
	for _, r := range rows {
		s := r.size()
		fast, proof, most, vouch := size.Fast(s), size.Proof(s), size.Most(s), size.Vouch(s)
		if got := size.Meet(s, proof, proof); got <= s.F {
			t.Errorf("%v: two of Proof have %d in common", s, got)
		}
		if got := size.Meet(s, fast, proof); got <= s.F {
			t.Errorf("%v: one of Fast and one of Proof have %d in common", s, got)
		}
		if got := size.Meet(s, most, fast); got < vouch+s.F {
			t.Errorf("%v: one of Most and one of Fast have %d in common", s, got)
		}
		// Both are groups of the N - F replicas that are left without the Byzantine ones.
		if got := most - s.F + proof - s.F - (size.N(s) - s.F); got < s.T+1 {
			t.Errorf("%v: one of Most and one of Proof have %d good ones in common", s, got)
		}
		if got := size.Meet(s, most, proof) - s.F; got < s.T+1 {
			t.Errorf("%v: one of Most and one of Proof have %d in common beside Byzantine ones", s, got)
		}
		if 2*vouch <= most {
			t.Errorf("%v: two of Vouch are %d", s, 2*vouch)
		}
	}
}

// wantQuorums checks P7.2 for the groups that pairs goes through: it hands each two groups of a and b replicas to check. The first F replicas are the Byzantine ones.
func wantQuorums(t *testing.T, s size.Size, pairs func(a, b int, check func(x, y group))) {
	t.Helper()
	least := func(a, b int, without group) int {
		few := size.N(s)
		pairs(a, b, func(x, y group) { few = min(few, (x & y &^ without).count()) })
		return few
	}
	fast, proof, most := size.Fast(s), size.Proof(s), size.Most(s)
	if got := least(proof, proof, 0); got <= s.F {
		t.Errorf("%v: two of Proof: %d", s, got)
	}
	if got := least(fast, proof, 0); got <= s.F {
		t.Errorf("%v: Fast and Proof: %d", s, got)
	}
	if got := least(most, fast, 0); got < size.Vouch(s)+s.F {
		t.Errorf("%v: Most and Fast: %d", s, got)
	}
	bad := firstOf(s.F)
	if got := least(most, proof, bad); got < s.T+1 {
		t.Errorf("%v: Most and Proof, without bad ones: %d", s, got)
	}
}

// P7.2 of all groups, for the sizes of few replicas. Which ones are Byzantine makes no difference, since all groups are gone through.
func TestQuorumsOfAllGroups(t *testing.T) {
	for _, r := range rows {
		if r.n > 12 {
			continue
		}
		wantQuorums(t, r.size(), func(a, b int, check func(x, y group)) {
			others := groups(r.n, b)
			for _, x := range groups(r.n, a) {
				for _, y := range others {
					check(x, y)
				}
			}
		})
	}
}

// P7.2 of the groups that have the fewest in common, and of mixed ones, for every size.
func TestQuorumsOfSomeGroups(t *testing.T) {
	random := rand.New(rand.NewPCG(7, 2))
	for _, r := range rows {
		wantQuorums(t, r.size(), func(a, b int, check func(x, y group)) {
			// Both have the first ones, of which F are Byzantine, and no more in common than they must.
			shared := max(a+b-r.n, 0)
			check(firstOf(a), firstOf(shared)|lastOf(r.n, b-shared))
			check(firstOf(a), lastOf(r.n, b))
			for range 2000 {
				check(anyGroup(random, r.n, a), anyGroup(random, r.n, b))
			}
		})
	}
}

func FuzzAnyNumbers(f *testing.F) {
	f.Add(1, 1, 4, 4, 7)
	f.Add(5, 5, -1, 27, -1)
	f.Add(-1, 1, 3, 3, 3)
	f.Add(math.MinInt, math.MaxInt, math.MinInt, math.MaxInt, math.MaxInt)
	f.Fuzz(func(t *testing.T, bad, faulty, a, b, view int) {
		s := size.Size{F: bad, T: faulty}
		made, e := size.New(bad, faulty)
		if size.Right(s) != (e == api.OK) || e == api.OK && made != s {
			t.Fatalf("New(%d, %d) = %v, %d", bad, faulty, made, e)
		}
		n, meet, leader := size.N(s), size.Meet(s, a, b), size.Leader(s, view)
		if e != api.OK {
			if made != (size.Size{}) || numbers(s) != (row{f: bad, t: faulty}) || meet != 0 || leader != 0 {
				t.Fatalf("%v is not valid: %v, %v, Meet %d, Leader %d", s, made, numbers(s), meet, leader)
			}
			return
		}
		if want := max(min(max(a, 0), n)+min(max(b, 0), n)-n, 0); meet != want || meet != size.Meet(s, b, a) {
			t.Fatalf("Meet(%v, %d, %d) = %d, not %d", s, a, b, meet, want)
		}
		if leader < 0 || leader >= n || view >= 0 && leader != view%n || view < 0 && leader != 0 {
			t.Fatalf("Leader(%v, %d) = %d", s, view, leader)
		}
	})
}
