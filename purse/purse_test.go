package purse_test

import (
	"bytes"
	"math"
	"math/rand/v2"
	"slices"
	"strconv"
	"strings"
	"sync"
	"testing"

	"consistory/api"
	"consistory/lms"
	"consistory/purse"
)

var (
	widths  = []int{1, 2, 4, 8}
	heights = []int{1, 2, 3, 4, 5}
	steps   = []int{1, 2, 3, 4, 5, 6, 7, 8}
	many    = map[int]int{1: 2, 2: 4, 3: 8, 4: 16, 5: 32} // leaves of each height
)

// noWidths are numbers near the widths, multiples and negatives of them, and numbers whose low bits are a width; noHeights and noSteps are the same for heights and steps.
var (
	noWidths = []int{
		0, 3, 5, 6, 7, 9, 12, 16, 32, 64, 256, 257, 264, 1 << 32, 1<<32 + 4,
		-1, -2, -3, -4, -8, -16, math.MinInt, math.MinInt + 8, math.MaxInt, math.MaxInt - 1,
	}
	noHeights = []int{
		0, 6, 7, 8, 10, 31, 32, 62, 63, 64, 65, 100, 256, 257, 1 << 32, 1<<32 + 5,
		-1, -2, -5, -64, math.MinInt, math.MinInt + 5, math.MaxInt, math.MaxInt - 1,
	}
	noSteps = []int{
		0, 9, 10, 16, 17, 32, 64, 256, 257, 264, 1 << 32, 1<<32 + 1, 1<<32 + 8,
		-1, -2, -7, -8, -9, math.MinInt, math.MinInt + 1, math.MinInt + 8, math.MaxInt, math.MaxInt - 1,
	}
)

func mixed(r *rand.Rand, n int) []byte {
	b := make([]byte, n)
	for i := range b {
		b[i] = byte(r.Uint32())
	}
	return b
}

// ordinary is a tree of mixed bytes.
func ordinary(w, h int) lms.Tree {
	r := rand.New(rand.NewPCG(uint64(w), uint64(h)))
	return lms.Tree{I: [16]byte(mixed(r, 16)), Seed: [32]byte(mixed(r, 32)), W: w, H: h}
}

func tell(p purse.Purse) string {
	return "width " + strconv.Itoa(p.T.W) + ", height " + strconv.Itoa(p.T.H) + ", next " + strconv.Itoa(p.Next) +
		", noted " + strconv.Itoa(p.Noted) + ", step " + strconv.Itoa(p.Step)
}

// known holds the signatures and public keys of layer 5 that were asked for, since they take long.
var known sync.Map

type asked struct {
	t    lms.Tree
	q    int
	text string
}

func signed(t lms.Tree, q int, text string) string {
	if s, ok := known.Load(asked{t, q, text}); ok {
		return s.(string)
	}
	s, e := lms.Sign(t, q, []byte(text))
	if e != api.OK {
		panic("layer 5 does not sign")
	}
	known.Store(asked{t, q, text}, string(s))
	return string(s)
}

func public(t lms.Tree) []byte {
	if s, ok := known.Load(t); ok {
		return []byte(s.(string))
	}
	s, e := lms.Public(t)
	if e != api.OK {
		panic("layer 5 has no public key")
	}
	known.Store(t, string(s))
	return s
}

// pursesOf are all valid purses of a tree: each step, and each pair of numbers.
func pursesOf(t lms.Tree) []purse.Purse {
	var l []purse.Purse
	for _, step := range steps {
		for noted := 0; noted <= many[t.H]; noted++ {
			for next := 0; next <= noted; next++ {
				l = append(l, purse.Purse{T: t, Next: next, Noted: noted, Step: step})
			}
		}
	}
	return l
}

func wantRight(t *testing.T, want bool, p purse.Purse) {
	t.Helper()
	if got := purse.Right(p); got != want {
		t.Errorf("Right, %s: %v", tell(p), got)
	}
}

func TestRightOfOrdinaryPurses(t *testing.T) {
	for _, w := range widths {
		for _, h := range heights {
			for _, p := range pursesOf(ordinary(w, h)) {
				wantRight(t, true, p)
			}
			for _, step := range steps {
				// Neither the identifier nor the seed counts.
				wantRight(t, true, purse.Purse{T: lms.Tree{W: w, H: h}, Step: step})
				wantRight(t, true, purse.Purse{T: lms.Tree{W: w, H: h}, Next: many[h], Noted: many[h], Step: step})
				wantRight(t, true, purse.Purse{T: lms.Tree{W: w, H: h}, Next: 0, Noted: many[h], Step: step})
			}
		}
	}
	wantRight(t, false, purse.Purse{})
}

func TestRightWhereThereIsNoTree(t *testing.T) {
	for _, step := range steps {
		for _, w := range noWidths {
			for _, h := range append(slices.Clone(heights), noHeights...) {
				wantRight(t, false, purse.Purse{T: lms.Tree{W: w, H: h}, Step: step})
				wantRight(t, false, purse.Purse{T: lms.Tree{W: w, H: h}, Next: 1, Noted: 1, Step: step})
			}
		}
		for _, h := range noHeights {
			for _, w := range widths {
				for _, noted := range []int{0, 1, 2, 32, 64, math.MinInt, math.MaxInt} {
					wantRight(t, false, purse.Purse{T: lms.Tree{W: w, H: h}, Noted: noted, Step: step})
					wantRight(t, false, purse.Purse{T: lms.Tree{W: w, H: h}, Next: noted, Noted: noted, Step: step})
				}
			}
		}
	}
}

func TestRightOfAnotherStep(t *testing.T) {
	for _, h := range heights {
		for _, step := range noSteps {
			for _, n := range []int{0, 1, many[h]} {
				wantRight(t, false, purse.Purse{T: ordinary(2, h), Next: n, Noted: n, Step: step})
				wantRight(t, false, purse.Purse{T: ordinary(2, h), Next: 0, Noted: n, Step: step})
			}
		}
	}
}

func TestRightOfAnyNumbers(t *testing.T) {
	for _, h := range heights {
		leaves := many[h]
		l := []int{
			math.MinInt, math.MinInt + 1, -1 << 32, -leaves, -2, -1, 0, 1, leaves - 1, leaves, leaves + 1, 2 * leaves, 33, 64,
			256, 1 << 32, 1<<32 + 1, math.MaxInt - 1, math.MaxInt,
		}
		for _, w := range widths {
			for _, step := range steps {
				for _, next := range l {
					for _, noted := range l {
						want := next >= 0 && noted >= next && leaves >= noted
						wantRight(t, want, purse.Purse{T: ordinary(w, h), Next: next, Noted: noted, Step: step})
					}
				}
			}
		}
	}
}

func TestRightOfWrongNumbers(t *testing.T) {
	for _, c := range []struct{ next, noted int }{
		{-1, 0}, {-1, -1}, {-1, 4}, {0, -1}, {1, 0}, {3, 2}, {4, 3}, {5, 4}, {5, 5}, {0, 5}, {4, 5},
		{math.MinInt, 0}, {math.MinInt, math.MinInt}, {0, math.MinInt}, {math.MaxInt, 4}, {math.MaxInt, math.MaxInt}, {0, math.MaxInt},
		{math.MinInt, math.MaxInt}, {math.MaxInt, math.MinInt},
	} {
		wantRight(t, false, purse.Purse{T: ordinary(4, 2), Next: c.next, Noted: c.noted, Step: 2})
	}
}

func TestNew(t *testing.T) {
	for _, w := range widths {
		for _, h := range heights {
			for _, step := range steps {
				for _, tree := range []lms.Tree{ordinary(w, h), {W: w, H: h}} {
					p, e := purse.New(tree, step)
					if p != (purse.Purse{T: tree, Next: 0, Noted: 0, Step: step}) || e != api.OK {
						t.Errorf("New, %s: %d", tell(p), e)
					}
					if !purse.Right(p) || purse.Left(p) != many[h] {
						t.Errorf("a new purse, %s: %v, left %d", tell(p), purse.Right(p), purse.Left(p))
					}
				}
			}
		}
	}
}

func wantNoPurse(t *testing.T, tree lms.Tree, step int) {
	t.Helper()
	if p, e := purse.New(tree, step); p != (purse.Purse{}) || e != api.ErrArg {
		t.Errorf("New, width %d, height %d, step %d: %s, %d", tree.W, tree.H, step, tell(p), e)
	}
}

func TestNewThatIsNotValid(t *testing.T) {
	for _, w := range widths {
		for _, h := range heights {
			for _, step := range noSteps {
				wantNoPurse(t, ordinary(w, h), step)
			}
		}
	}
	for _, step := range append(slices.Clone(steps), noSteps...) {
		for _, w := range noWidths {
			for _, h := range []int{1, 2, 5, 0, 6, -1, math.MinInt, math.MaxInt} {
				tree := ordinary(4, 2)
				tree.W, tree.H = w, h
				wantNoPurse(t, tree, step)
			}
		}
		for _, h := range noHeights {
			for _, w := range widths {
				tree := ordinary(4, 2)
				tree.W, tree.H = w, h
				wantNoPurse(t, tree, step)
			}
		}
	}
}

func TestLeft(t *testing.T) {
	for _, w := range widths {
		for _, h := range heights {
			for _, p := range pursesOf(ordinary(w, h)) {
				// What is reserved and not used is left too.
				if got := purse.Left(p); got != many[h]-p.Next {
					t.Errorf("Left, %s: %d", tell(p), got)
				}
			}
		}
	}
	tree := ordinary(4, 3)
	for _, c := range []struct{ next, noted, left int }{{0, 0, 8}, {0, 8, 8}, {1, 4, 7}, {4, 4, 4}, {7, 8, 1}, {8, 8, 0}} {
		if got := purse.Left(purse.Purse{T: tree, Next: c.next, Noted: c.noted, Step: 3}); got != c.left {
			t.Errorf("Left, next %d, noted %d: %d", c.next, c.noted, got)
		}
	}
}

// plainSign is the chapter's words: what a valid purse with a leaf left is after a signature, and whether it reserved leaves.
func plainSign(p purse.Purse) (purse.Purse, bool) {
	reserved := false
	if p.Next >= p.Noted {
		for i := 0; i < p.Step && p.Noted < many[p.T.H]; i++ {
			p.Noted++
			reserved = true
		}
	}
	p.Next++
	return p, reserved
}

func checkSign(t *testing.T, p purse.Purse, text string) {
	t.Helper()
	wanted, wantedNote := plainSign(p)
	got, signature, note, e := purse.Sign(p, []byte(text))
	if got != wanted || note != wantedNote || e != api.OK {
		t.Errorf("Sign, %s: %s, %v, %d", tell(p), tell(got), note, e)
	}
	if string(signature) != signed(p.T, p.Next, text) {
		t.Errorf("Sign, %s: not the signature of leaf %d: %.8x (%d bytes)", tell(p), p.Next, signature, len(signature))
	}
	if !purse.Right(got) || purse.Left(got) != purse.Left(p)-1 {
		t.Errorf("Sign, %s: left %d, %v", tell(p), purse.Left(got), purse.Right(got))
	}
}

func TestSignWithEachPurse(t *testing.T) {
	for _, tree := range []lms.Tree{ordinary(2, 1), ordinary(2, 2), ordinary(2, 3), ordinary(4, 1), ordinary(1, 2)} {
		for _, p := range pursesOf(tree) {
			if p.Next < many[tree.H] {
				checkSign(t, p, "text")
			}
		}
	}
}

func TestSignWithGreatTrees(t *testing.T) {
	for _, h := range []int{4, 5} {
		last := many[h]
		for _, step := range steps {
			for _, c := range []struct{ next, noted int }{
				{0, 0}, {0, step}, {step, step}, {step - 1, step}, {last - step, last - step}, {last - step - 1, last - step}, {last - 1, last - 1}, {last - 1, last},
			} {
				checkSign(t, purse.Purse{T: ordinary(2, h), Next: c.next, Noted: c.noted, Step: step}, "text")
			}
		}
	}
}

func TestSignWithEachWidth(t *testing.T) {
	for _, w := range widths {
		p, _ := purse.New(ordinary(w, 2), 3)
		for i := range 4 {
			checkSign(t, p, "text "+strconv.Itoa(i))
			p, _ = plainSign(p)
		}
	}
	if testing.Short() {
		return
	}
	checkSign(t, purse.Purse{T: ordinary(8, 5), Next: 30, Noted: 30, Step: 8}, "text")
}

// What is reserved is written out here, number by number, for the height 3 (8 leaves).
func TestReserving(t *testing.T) {
	tree := ordinary(2, 3)
	for _, c := range []struct {
		next, noted, step int
		noted2            int
		note              bool
	}{
		{0, 0, 1, 1, true}, {0, 0, 4, 4, true}, {0, 0, 8, 8, true}, {0, 0, 7, 7, true}, // not reserved
		{4, 4, 3, 7, true}, {4, 4, 4, 8, true}, {7, 7, 1, 8, true},
		{0, 1, 4, 1, false}, {0, 8, 1, 8, false}, {3, 4, 4, 4, false}, {6, 7, 8, 7, false}, {7, 8, 5, 8, false}, // reserved already
		{4, 4, 5, 8, true}, {6, 6, 3, 8, true}, {7, 7, 8, 8, true}, {1, 1, 8, 8, true}, // fewer are left
	} {
		p := purse.Purse{T: tree, Next: c.next, Noted: c.noted, Step: c.step}
		got, _, note, e := purse.Sign(p, []byte("text"))
		if got.Noted != c.noted2 || note != c.note || e != api.OK || got.Next != c.next+1 || got.Step != c.step || got.T != tree {
			t.Errorf("%s: %s, %v, %d", tell(p), tell(got), note, e)
		}
	}
}

func TestNoLeafIsLeft(t *testing.T) {
	for _, w := range widths {
		for _, h := range heights {
			for _, step := range steps {
				p := purse.Purse{T: ordinary(w, h), Next: many[h], Noted: many[h], Step: step}
				for _, text := range [][]byte{nil, {}, []byte("text")} {
					got, signature, note, e := purse.Sign(p, text)
					if got != p || len(signature) != 0 || note || e != api.ErrSpent {
						t.Errorf("Sign, %s: %s, %d bytes, %v, %d", tell(p), tell(got), len(signature), note, e)
					}
				}
				if after := purse.Crash(p); after != p || purse.Left(p) != 0 {
					t.Errorf("Crash, %s: %s, left %d", tell(p), tell(after), purse.Left(p))
				}
			}
		}
	}
}

// A purse whose last leaves are lost by a crash has none left either.
func TestNoLeafIsLeftAfterACrash(t *testing.T) {
	for _, step := range steps {
		p, _ := purse.New(ordinary(2, 1), step)
		for range 2 {
			if purse.Left(p) > 0 {
				p, _, _, _ = purse.Sign(p, []byte("text"))
				p = purse.Crash(p)
			}
		}
		if got, signature, note, e := purse.Sign(p, []byte("text")); got != p || len(signature) != 0 || note || e != api.ErrSpent {
			t.Errorf("step %d: %s, %d bytes, %v, %d", step, tell(got), len(signature), note, e)
		}
	}
}

func TestCrash(t *testing.T) {
	for _, w := range widths {
		for _, h := range heights {
			for _, p := range pursesOf(ordinary(w, h)) {
				want := purse.Purse{T: p.T, Next: p.Noted, Noted: p.Noted, Step: p.Step}
				got := purse.Crash(p)
				if got != want || !purse.Right(got) || purse.Crash(got) != want {
					t.Errorf("Crash, %s: %s", tell(p), tell(got))
				}
			}
		}
	}
}

func wantLeaf(t *testing.T, q int, signature []byte) {
	t.Helper()
	if got, e := lms.Leaf(signature); got != q || e != api.OK {
		t.Errorf("leaf %d (%d), not %d", got, e, q)
	}
}

func TestExample(t *testing.T) {
	for _, w := range []int{1, 2, 4} {
		p, e := purse.New(ordinary(w, 3), 4)
		if e != api.OK {
			t.Fatal(e)
		}
		p, first, note, e := purse.Sign(p, []byte("first"))
		if p.Noted != 4 || p.Next != 1 || !note || e != api.OK || !purse.Owns(p, []byte("first"), first) {
			t.Errorf("first: %s, %v, %d", tell(p), note, e)
		}
		wantLeaf(t, 0, first)
		p = purse.Crash(p)
		if purse.Left(p) != 4 {
			t.Errorf("after a crash: left %d", purse.Left(p))
		}
		p, second, note, e := purse.Sign(p, []byte("second"))
		if p.Noted != 8 || p.Next != 5 || !note || e != api.OK || !purse.Owns(p, []byte("second"), second) {
			t.Errorf("second: %s, %v, %d", tell(p), note, e)
		}
		wantLeaf(t, 4, second)
	}
}

func TestSignTextsOfAnyLength(t *testing.T) {
	p, _ := purse.New(ordinary(2, 2), 2)
	for _, text := range []string{"", "\x00", "a", "text", strings.Repeat("long", 1000), strings.Repeat("\xff", 55), strings.Repeat("\x80", 64)} {
		checkSign(t, p, text)
		_, signature, _, _ := purse.Sign(p, []byte(text))
		if !purse.Owns(p, []byte(text), signature) {
			t.Errorf("Owns, text of %d bytes", len(text))
		}
	}
	// Nil and no bytes are the same.
	_, none, _, _ := purse.Sign(p, nil)
	_, empty, _, _ := purse.Sign(p, []byte{})
	if string(none) != signed(p.T, 0, "") || !bytes.Equal(none, empty) {
		t.Error("no text: another signature")
	}
	if !purse.Owns(p, []byte{}, none) || !purse.Owns(p, nil, empty) || !purse.Owns(p, nil, none) || purse.Owns(p, []byte{0}, none) {
		t.Error("no text: Owns")
	}
}

// ownsTrees are trees of each width and height that take little time.
func ownsTrees() []lms.Tree {
	return []lms.Tree{ordinary(1, 1), ordinary(2, 2), ordinary(4, 3), ordinary(8, 1), ordinary(2, 4), ordinary(2, 5)}
}

func wantOwns(t *testing.T, want bool, p purse.Purse, text, signature, what string) {
	t.Helper()
	if got := purse.Owns(p, []byte(text), []byte(signature)); got != want {
		t.Errorf("Owns, %s, %s: %v", tell(p), what, got)
	}
}

func TestOwnsWhatWasSigned(t *testing.T) {
	for _, tree := range ownsTrees() {
		leaves := many[tree.H]
		for _, q := range []int{0, leaves / 3, leaves - 1} {
			// What is left of a purse does not count: what was signed with any leaf is its own.
			for _, n := range []int{0, 1, leaves} {
				p := purse.Purse{T: tree, Next: n, Noted: n, Step: 2}
				wantOwns(t, true, p, "text", signed(tree, q, "text"), "leaf "+strconv.Itoa(q))
			}
		}
	}
}

func TestOwnsNotAnotherText(t *testing.T) {
	for _, tree := range ownsTrees() {
		p := purse.Purse{T: tree, Next: 1, Noted: 2, Step: 2}
		signature := signed(tree, 0, "text")
		for _, text := range []string{"", "tex", "texts", "Text", "text\x00", "\x00text", strings.Repeat("text", 500)} {
			wantOwns(t, false, p, text, signature, "another text")
		}
		if purse.Owns(p, nil, []byte(signature)) {
			t.Errorf("Owns, %s, no text", tell(p))
		}
	}
}

func TestOwnsNotThatOfAnotherTree(t *testing.T) {
	for _, tree := range ownsTrees() {
		p := purse.Purse{T: tree, Next: 1, Noted: 2, Step: 2}
		seed, name, width, height := tree, tree, tree, tree
		seed.Seed[31] ^= 1
		name.I[0] ^= 128
		width.W = map[int]int{1: 2, 2: 4, 4: 1, 8: 1}[tree.W]
		height.H = 1 + tree.H%3
		for what, other := range map[string]lms.Tree{"another seed": seed, "another identifier": name, "another width": width, "another height": height} {
			signature := signed(other, 0, "text")
			wantOwns(t, false, p, "text", signature, what)
			wantOwns(t, true, purse.Purse{T: other, Step: 1}, "text", signature, what+", by itself")
		}
	}
}

func TestOwnsNotWhatIsChanged(t *testing.T) {
	for _, tree := range ownsTrees() {
		p := purse.Purse{T: tree, Next: 1, Noted: 2, Step: 2}
		good := signed(tree, 0, "text")
		places := []int{0, 1, 2, 3, 4, 7, 8, 39, 40, len(good) - 33, len(good) - 32, len(good) - 1, len(good) - 32*tree.H - 1, len(good) - 32*tree.H}
		for i := 8; i < len(good); i += 1 + len(good)/10 {
			places = append(places, i)
		}
		for _, i := range places {
			changed := []byte(good)
			changed[i] ^= 1 << (i % 8)
			wantOwns(t, false, p, "text", string(changed), "byte "+strconv.Itoa(i))
		}
	}
}

func TestOwnsNotWhatHasAnotherByte(t *testing.T) {
	p := purse.Purse{T: ordinary(4, 1), Step: 1}
	good := signed(p.T, 1, "text")
	for i := range good {
		changed := []byte(good)
		changed[i]++
		wantOwns(t, false, p, "text", string(changed), "byte "+strconv.Itoa(i))
	}
}

func TestOwnsNotWhatHasAnotherLength(t *testing.T) {
	for _, tree := range ownsTrees() {
		p := purse.Purse{T: tree, Next: 1, Noted: 2, Step: 2}
		good := signed(tree, 0, "text")
		for _, n := range []int{0, 1, 3, 4, 7, 8, len(good) - 32, len(good) - 1, len(good) + 1, len(good) + 32, 2 * len(good)} {
			wantOwns(t, false, p, "text", (good + good)[:n], strconv.Itoa(n)+" bytes")
			wantOwns(t, false, p, "", (good + good)[:n], strconv.Itoa(n)+" bytes, no text")
		}
		for _, text := range [][]byte{nil, {}, []byte("text")} {
			if purse.Owns(p, text, nil) || purse.Owns(p, text, []byte{}) || purse.Owns(p, text, []byte(good)[:0]) {
				t.Errorf("Owns, %s: no signature", tell(p))
			}
		}
	}
}

// The document requires valid purses; with others nothing panics, and nothing is signed.
func TestPursesThatAreNotValid(t *testing.T) {
	l := []purse.Purse{{}}
	for _, h := range noHeights {
		for _, n := range []int{0, 1, math.MinInt, math.MaxInt} {
			l = append(l, purse.Purse{T: lms.Tree{W: 2, H: h}, Next: n, Noted: n, Step: 1})
		}
	}
	for _, w := range noWidths {
		l = append(l, purse.Purse{T: lms.Tree{W: w, H: 2}, Step: 1})
	}
	for _, step := range noSteps {
		l = append(l, purse.Purse{T: ordinary(2, 2), Step: step})
	}
	for _, n := range []int{math.MinInt, -1, 5, math.MaxInt} {
		l = append(l, purse.Purse{T: ordinary(2, 2), Next: n, Noted: 4, Step: 1}, purse.Purse{T: ordinary(2, 2), Noted: n, Step: 1}, purse.Purse{T: ordinary(2, 2), Next: n, Noted: n, Step: 1})
	}
	l = append(l, purse.Purse{T: ordinary(2, 2), Next: 2, Noted: 1, Step: 1})
	for _, p := range l {
		got, signature, note, e := purse.Sign(p, []byte("text"))
		if got != (purse.Purse{}) || len(signature) != 0 || note || e != api.ErrArg {
			t.Errorf("Sign, %s: %s, %d bytes, %v, %d", tell(p), tell(got), len(signature), note, e)
		}
		if purse.Crash(p).Noted != p.Noted || purse.Left(p) != 0 || purse.Owns(p, []byte("text"), nil) {
			t.Errorf("%s: left %d, after a crash %s", tell(p), purse.Left(p), tell(purse.Crash(p)))
		}
	}
}

// framed returns b between bytes that are not part of it, the ones behind within its capacity, and a call that tells whether all are as they were.
func framed(b string) ([]byte, func() bool) {
	whole := []byte("<<<" + b + ">>>" + strings.Repeat("*", 100))
	before := string(whole)
	return whole[3 : 3+len(b)], func() bool { return string(whole) == before }
}

func TestNothingHandedInIsChanged(t *testing.T) {
	for _, tree := range []lms.Tree{ordinary(1, 1), ordinary(2, 2), ordinary(4, 1), ordinary(8, 1)} {
		good := signed(tree, 0, "text")
		for _, p := range []purse.Purse{{T: tree, Step: 1}, {T: tree, Next: 1, Noted: 2, Step: 8}, {T: tree, Next: many[tree.H], Noted: many[tree.H], Step: 2}} {
			for _, s := range []string{"text", "", "another one", strings.Repeat("long", 100)} {
				text, sameText := framed(s)
				purse.Sign(p, text)
				if !sameText() {
					t.Errorf("Sign, %s, %.20q, changes the text", tell(p), s)
				}
				for _, g := range []string{good, good[:len(good)-1], good + "x", good[:3], "", "\x09" + good[1:]} {
					signature, sameSignature := framed(g)
					purse.Owns(p, text, signature)
					if !sameText() || !sameSignature() {
						t.Errorf("Owns, %s, %.20q, %d bytes, changes what it is given", tell(p), s, len(g))
					}
				}
			}
		}
	}
}

// spoil overwrites an answer, and what its capacity has room for.
func spoil(b []byte) {
	b = b[:cap(b)]
	for i := range b {
		b[i] = 0xee
	}
	_ = append(b[:0], 0xdd)
}

func TestAnswersAreTheCallers(t *testing.T) {
	for _, tree := range []lms.Tree{ordinary(1, 1), ordinary(2, 3), ordinary(4, 2), ordinary(8, 1)} {
		p, _ := purse.New(tree, 2)
		text := []byte("text")
		after, first, _, _ := purse.Sign(p, text)
		_, other, _, _ := purse.Sign(p, text)
		spoil(first)
		copy(text, "TEXT")
		if string(other) != signed(tree, 0, "text") || !purse.Owns(p, []byte("text"), other) {
			t.Errorf("%s: a signature changes with another one, or with the text", tell(p))
		}
		checkSign(t, p, "text")
		checkSign(t, after, "text")
		if purse.Owns(after, []byte("text"), first) {
			t.Errorf("%s: Owns accepts what was overwritten", tell(p))
		}
	}
}

// The state of a purse is in its value only: an earlier value signs as it did before, and other purses between do not matter.
func TestNothingIsKept(t *testing.T) {
	a, _ := purse.New(ordinary(2, 2), 3)
	b, _ := purse.New(ordinary(1, 2), 1)
	for range 2 {
		p, q := a, b
		for i := range 4 {
			before := p
			checkSign(t, p, "a")
			checkSign(t, q, "b")
			p, _, _, _ = purse.Sign(p, []byte("a"))
			q, _, _, _ = purse.Sign(q, []byte("b"))
			if i == 1 {
				purse.Crash(p)
			}
			checkSign(t, before, "another one")
		}
	}
}

// story signs and crashes as it is told, till nothing is told any more, and holds what happened against P6.2.
type story struct {
	t    *testing.T
	p    purse.Purse
	used map[int]string // the text that each leaf signed
	told string
}

func newStory(t *testing.T, tree lms.Tree, step int) *story {
	p, e := purse.New(tree, step)
	if e != api.OK {
		t.Fatalf("New: %d", e)
	}
	return &story{t: t, p: p, used: map[int]string{}, told: "step " + strconv.Itoa(step) + ": "}
}

// sign reports whether a leaf was left.
func (s *story) sign() bool {
	s.told += "s"
	// No two signatures of a story are of the same text.
	text := "text " + s.told
	left := purse.Left(s.p)
	after, signature, note, e := purse.Sign(s.p, []byte(text))
	if left == 0 {
		if after != s.p || len(signature) != 0 || note || e != api.ErrSpent {
			s.t.Errorf("%s: spent: %s, %d", s.told, tell(after), e)
		}
		return false
	}
	q, f := lms.Leaf(signature)
	if e != api.OK || f != api.OK {
		s.t.Errorf("%s: %d, %d", s.told, e, f)
		return false
	}
	if before, ok := s.used[q]; ok {
		s.t.Errorf("%s: leaf %d signed %q already", s.told, q, before)
	}
	// Each leaf that is used was recorded before, and the record changes only where that is reported.
	if q >= after.Noted || note != (after.Noted != s.p.Noted) {
		s.t.Errorf("%s: leaf %d, %s, %v", s.told, q, tell(after), note)
	}
	s.used[q] = text
	s.p = after
	if !purse.Owns(s.p, []byte(text), signature) {
		s.t.Errorf("%s: Owns does not accept leaf %d", s.told, q)
	}
	return true
}

func (s *story) crash() {
	s.told += "c"
	s.p = purse.Crash(s.p)
	if !purse.Right(s.p) {
		s.t.Errorf("%s: %s", s.told, tell(s.p))
	}
}

// crashWithin crashes after leaves were recorded, and before a signature was made with one of them.
func (s *story) crashWithin() {
	s.told += "w"
	after, _, _, e := purse.Sign(s.p, []byte("lost "+s.told))
	if e == api.OK {
		s.p.Noted = after.Noted
	}
	s.p = purse.Crash(s.p)
}

// spend signs till no leaf is left.
func (s *story) spend() {
	for i := 0; s.sign(); i++ {
		if i > 32 {
			s.t.Fatalf("%s: never spent", s.told)
		}
	}
}

func TestEachOrderOfSigningAndCrashing(t *testing.T) {
	for h, long := range map[int]int{1: 5, 2: 6} {
		for _, step := range []int{1, 2, 3, 4, 8} {
			for order := range 1 << long {
				s := newStory(t, ordinary(2, h), step)
				for i := 0; i < long && purse.Left(s.p) > 0; i++ {
					if order>>i&1 == 0 {
						s.sign()
					} else {
						s.crash()
					}
				}
				s.spend()
			}
		}
	}
}

func TestACrashAtEachPlace(t *testing.T) {
	for _, step := range steps {
		t.Run(strconv.Itoa(step), func(t *testing.T) {
			t.Parallel()
			tree := ordinary(2, 3)
			for at := range many[tree.H] + 1 {
				for _, within := range []bool{false, true} {
					s := newStory(t, tree, step)
					for range at {
						s.sign()
					}
					if within {
						s.crashWithin()
					} else {
						s.crash()
					}
					s.spend()
				}
			}
		})
	}
}

func TestTwoCrashes(t *testing.T) {
	for _, step := range []int{1, 2, 3, 5} {
		t.Run(strconv.Itoa(step), func(t *testing.T) {
			t.Parallel()
			tree := ordinary(2, 3)
			for first := range many[tree.H] {
				for second := range many[tree.H] - first {
					s := newStory(t, tree, step)
					for range first {
						s.sign()
					}
					s.crash()
					for range second {
						s.sign()
					}
					s.crashWithin()
					s.spend()
				}
			}
		})
	}
}

func TestSpendingGreatTrees(t *testing.T) {
	for _, h := range []int{4, 5} {
		for _, step := range []int{1, 3, 8} {
			t.Run(strconv.Itoa(h)+", "+strconv.Itoa(step), func(t *testing.T) {
				t.Parallel()
				whole := newStory(t, ordinary(2, h), step)
				whole.spend()
				if len(whole.used) != many[h] {
					t.Errorf("%d leaves signed", len(whole.used))
				}
				for _, every := range []int{1, 2, 5} {
					s := newStory(t, ordinary(2, h), step)
					for i := 1; s.sign(); i++ {
						if i%every == 0 {
							s.crash()
						}
					}
				}
			})
		}
	}
}

// How many leaves a crash loses is written out here: those that were reserved and not used.
func TestWhatACrashLoses(t *testing.T) {
	for _, c := range []struct{ step, signs, lost int }{
		{1, 0, 0}, {1, 1, 0}, {1, 5, 0}, {3, 1, 2}, {3, 2, 1}, {3, 3, 0}, {3, 4, 2}, {3, 7, 1}, {3, 8, 0}, {8, 1, 7}, {8, 0, 0}, {5, 6, 2}, {5, 5, 0},
	} {
		s := newStory(t, ordinary(2, 3), c.step)
		for range c.signs {
			s.sign()
		}
		s.crash()
		if got := purse.Left(s.p); got != 8-c.signs-c.lost {
			t.Errorf("step %d, %d signatures: left %d", c.step, c.signs, got)
		}
		s.spend()
		if len(s.used) != 8-c.lost {
			t.Errorf("step %d, %d signatures: %d leaves signed", c.step, c.signs, len(s.used))
		}
	}
}

// After a crash a purse depends on nothing that is not durable.
func TestACrashForgetsTheNextLeaf(t *testing.T) {
	for noted := range 9 {
		for next := range noted + 1 {
			a := purse.Crash(purse.Purse{T: ordinary(2, 3), Next: next, Noted: noted, Step: 3})
			b := purse.Crash(purse.Purse{T: ordinary(2, 3), Next: 0, Noted: noted, Step: 3})
			if a != b {
				t.Errorf("next %d, noted %d: %s", next, noted, tell(a))
			}
		}
	}
}

func FuzzNoReuse(f *testing.F) {
	f.Add([]byte("name"), []byte("seed"), 2, 2, 4, []byte{0, 0, 1, 0, 2, 0})
	f.Add([]byte(nil), []byte(nil), 0, 3, 1, []byte{1, 2, 1, 0})
	f.Fuzz(func(t *testing.T, name, seed []byte, at, h, step int, order []byte) {
		// The greatest trees take long.
		tree := lms.Tree{W: widths[uint(at)%3], H: 1 + int(uint(h)%3)}
		copy(tree.I[:], name)
		copy(tree.Seed[:], seed)
		s := newStory(t, tree, 1+int(uint(step)%8))
		for _, c := range order[:min(len(order), 20)] {
			switch c % 3 {
			case 0:
				s.sign()
			case 1:
				s.crash()
			case 2:
				s.crashWithin()
			}
		}
		s.spend()
	})
}

func FuzzOwns(f *testing.F) {
	f.Add([]byte("text"), []byte(signed(ordinary(4, 2), 1, "text")))
	f.Add([]byte(nil), []byte{0, 0, 0})
	f.Fuzz(func(t *testing.T, text, signature []byte) {
		p := purse.Purse{T: ordinary(4, 2), Next: 2, Noted: 3, Step: 3}
		want := lms.Verify(public(p.T), text, signature) == api.OK
		if got := purse.Owns(p, text, signature); got != want {
			t.Errorf("Owns(%q, %.20x (%d bytes)): %v", text, signature, len(signature), got)
		}
	})
}
