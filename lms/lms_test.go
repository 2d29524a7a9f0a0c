package lms_test

import (
	"bytes"
	"crypto/sha256"
	"encoding/binary"
	"encoding/hex"
	"math"
	"math/rand/v2"
	"slices"
	"strconv"
	"strings"
	"testing"

	"consistory/api"
	"consistory/lms"
	"consistory/ots"
)

var (
	widths  = []int{1, 2, 4, 8}
	heights = []int{1, 2, 3, 4, 5}
)

// noWidths are numbers near the widths, multiples and negatives of them, and numbers whose low bits are a width.
var noWidths = []int{
	0, 3, 5, 6, 7, 9, 12, 16, 32, 64, 256, 257, 264, 1 << 32, 1<<32 + 4,
	-1, -2, -3, -4, -8, -16, math.MinInt, math.MinInt + 8, math.MaxInt, math.MaxInt - 1,
}

// noHeights are the same for the heights; among them are the heights that RFC 8554 has types for.
var noHeights = []int{
	0, 6, 7, 8, 10, 15, 20, 25, 63, 64, 65, 100, 101, 105, 256, 257, 1 << 32, 1<<32 + 5,
	-1, -2, -5, -64, math.MinInt, math.MinInt + 5, math.MaxInt, math.MaxInt - 1,
}

// The types, and the bytes of a one-time signature, are those of RFC 8554 (sections 3.3 and 4.1), and the chapter's own.
var (
	kinds    = map[int]uint32{1: 101, 2: 102, 3: 103, 4: 104, 5: 5}
	keyKinds = map[int]uint32{1: 1, 2: 2, 4: 3, 8: 4}
	once     = map[int]int{1: 8516, 2: 4292, 4: 2180, 8: 1124}
)

// The plain functions below are the chapter's words, with the library's SHA-256, and with the one-time signatures of layer 4.

func plainHash(parts ...string) api.Hash {
	return sha256.Sum256([]byte(strings.Join(parts, "")))
}

func four(n uint32) string {
	return string(binary.BigEndian.AppendUint32(nil, n))
}

func plainKey(t lms.Tree, q int) ots.Key {
	return ots.Key{I: t.I, Q: uint32(q), Seed: t.Seed, W: t.W}
}

// known holds the nodes of the trees that were asked for, since they take long.
var known = map[lms.Tree][]api.Hash{}

// plainNodes returns the hashes of all nodes, at their numbers, worked out from the last to the first.
func plainNodes(t lms.Tree) []api.Hash {
	if l := known[t]; l != nil {
		return l
	}
	leaves := int(math.Pow(2, float64(t.H)))
	l := make([]api.Hash, 2*leaves)
	for r := len(l) - 1; r >= 1; r-- {
		if r >= leaves {
			public, _ := ots.Public(plainKey(t, r-leaves))
			l[r] = plainHash(string(t.I[:]), four(uint32(r)), "\x82\x82", string(public[:]))
		} else {
			l[r] = plainHash(string(t.I[:]), four(uint32(r)), "\x83\x83", string(l[2*r][:]), string(l[2*r+1][:]))
		}
	}
	known[t] = l
	return l
}

func plainPublic(t lms.Tree) string {
	root := plainNodes(t)[1]
	return four(kinds[t.H]) + four(keyKinds[t.W]) + string(t.I[:]) + string(root[:])
}

func plainSign(t lms.Tree, q int, text string) string {
	nodes := plainNodes(t)
	first, _ := ots.Sign(plainKey(t, q), []byte(text))
	s := four(uint32(q)) + string(first) + four(kinds[t.H])
	for r := len(nodes)/2 + q; r != 1; r /= 2 {
		if r%2 == 0 {
			s += string(nodes[r+1][:])
		} else {
			s += string(nodes[r-1][:])
		}
	}
	return s
}

// plainVerify takes a signature apart from its end.
func plainVerify(public, text, signature string) api.Errno {
	if len(public) != 56 {
		return api.ErrForm
	}
	w, h := 0, 0
	for i, kind := range keyKinds {
		if public[4:8] == four(kind) {
			w = i
		}
	}
	for i, kind := range kinds {
		if public[:4] == four(kind) {
			h = i
		}
	}
	if w == 0 || h == 0 || len(signature) != 4+once[w]+4+32*h {
		return api.ErrForm
	}
	q := binary.BigEndian.Uint32([]byte(signature))
	leaves := uint32(math.Pow(2, float64(h)))
	if signature[4:8] != public[4:8] || signature[4+once[w]:8+once[w]] != public[:4] || q > leaves-1 {
		return api.ErrForm
	}
	name := public[8:24]
	x, _ := ots.Candidate([16]byte([]byte(name)), q, []byte(text), []byte(signature[4:4+once[w]]))
	r := leaves + q
	hash := plainHash(name, four(r), "\x82\x82", string(x[:]))
	for i := range h {
		other := signature[len(signature)-32*(h-i):][:32]
		if r&1 == 0 {
			hash = plainHash(name, four(r>>1), "\x83\x83", string(hash[:]), other)
		} else {
			hash = plainHash(name, four(r>>1), "\x83\x83", other, string(hash[:]))
		}
		r >>= 1
	}
	if string(hash[:]) != public[24:] {
		return api.ErrFalse
	}
	return api.OK
}

func mixed(r *rand.Rand, n int) []byte {
	b := make([]byte, n)
	for i := range b {
		b[i] = byte(r.Uint32())
	}
	return b
}

// ordinary is a tree of mixed bytes.
func ordinary(w, h int) lms.Tree {
	r := rand.New(rand.NewPCG(uint64(w), uint64(h)))
	return lms.Tree{I: [16]byte(mixed(r, 16)), Seed: [32]byte(mixed(r, 32)), W: w, H: h}
}

// someTrees are trees of each width and height, and small ones of zero bytes and of bytes 255.
func someTrees() []lms.Tree {
	var l []lms.Tree
	for _, w := range widths {
		for _, h := range heights {
			l = append(l, ordinary(w, h))
		}
		full := lms.Tree{W: w, H: 2}
		for i := range full.I {
			full.I[i] = 255
		}
		for i := range full.Seed {
			full.Seed[i] = 255
		}
		l = append(l, lms.Tree{W: w, H: 1}, full)
	}
	return l
}

// smallTrees are those that take little time: of each width, and of each height.
func smallTrees() []lms.Tree {
	return []lms.Tree{
		ordinary(1, 1), ordinary(2, 2), ordinary(4, 3), ordinary(8, 1), ordinary(1, 4), ordinary(1, 5), ordinary(2, 1), ordinary(4, 1),
	}
}

func tell(t lms.Tree) string {
	return "width " + strconv.Itoa(t.W) + ", height " + strconv.Itoa(t.H)
}

// someLeaves are the first and the last leaf, and two between, whose paths turn.
func someLeaves(t lms.Tree) []int {
	last := 1<<t.H - 1
	l := []int{0, last, last * 2 / 3, last / 3}
	slices.Sort(l)
	return slices.Compact(l)
}

// noTrees are trees one of whose numbers does not exist, or both.
func noTrees() []lms.Tree {
	var l []lms.Tree
	for _, w := range noWidths {
		for _, h := range []int{1, 2, 5, 0, -1, 6, math.MinInt, math.MaxInt} {
			tree := ordinary(4, 2)
			tree.W, tree.H = w, h
			l = append(l, tree)
		}
	}
	for _, h := range noHeights {
		for _, w := range widths {
			tree := ordinary(4, 2)
			tree.W, tree.H = w, h
			l = append(l, tree)
		}
	}
	return l
}

func TestNoTree(t *testing.T) {
	for _, tree := range noTrees() {
		if got, e := lms.Public(tree); len(got) != 0 || e != api.ErrArg {
			t.Errorf("Public, %s: %x, %d", tell(tree), got, e)
		}
		if got, e := lms.Long(tree); got != 0 || e != api.ErrArg {
			t.Errorf("Long, %s: %d, %d", tell(tree), got, e)
		}
		for _, r := range []int{1, 2, 3, 0, -1, 1000, math.MinInt, math.MaxInt} {
			if got, e := lms.Knot(tree, r); got != (api.Hash{}) || e != api.ErrArg {
				t.Errorf("Knot(%d), %s: %x, %d", r, tell(tree), got, e)
			}
		}
		// Where there is no tree, there is no leaf either: the first error counts.
		for _, q := range []int{0, 1, -1, 4, 1000, math.MinInt, math.MaxInt} {
			for _, text := range [][]byte{nil, {}, []byte("text")} {
				if got, e := lms.Sign(tree, q, text); len(got) != 0 || e != api.ErrArg {
					t.Errorf("Sign(%d), %s: %x, %d", q, tell(tree), got, e)
				}
			}
		}
	}
}

func TestLong(t *testing.T) {
	for _, w := range widths {
		for _, h := range heights {
			// The length depends on neither the name nor the seed.
			for _, tree := range []lms.Tree{ordinary(w, h), {W: w, H: h}} {
				if got, e := lms.Long(tree); got != 4+once[w]+4+32*h || e != api.OK {
					t.Errorf("Long, %s: %d, %d", tell(tree), got, e)
				}
			}
		}
	}
}

func TestPublic(t *testing.T) {
	for _, tree := range someTrees() {
		got, e := lms.Public(tree)
		if string(got) != plainPublic(tree) || len(got) != 56 || e != api.OK {
			t.Errorf("Public, %s: %x, %d", tell(tree), got, e)
		}
	}
}

// The first bytes are written out here, number by number, for each width and height.
func TestTypesOfPublicKeys(t *testing.T) {
	for h, kind := range []byte{1: 101, 2: 102, 3: 103, 4: 104, 5: 5} {
		for w, keys := range []byte{1: 1, 2: 2, 4: 3, 8: 4} {
			if h == 0 || keys == 0 {
				continue
			}
			got, _ := lms.Public(ordinary(w, h))
			if want := []byte{0, 0, 0, kind, 0, 0, 0, keys}; !bytes.HasPrefix(got, want) {
				t.Errorf("width %d, height %d: %x, not %x", w, h, got, want)
			}
		}
	}
}

// The tree of test case 2 of RFC 8554 (appendix F) that has one of the chapter's heights.
func TestPublicKeyOfTheRFC(t *testing.T) {
	name, _ := hex.DecodeString("215f83b7ccb9acbcd08db97b0d04dc2b")
	seed, _ := hex.DecodeString("a1c4696e2608035a886100d05cd99945eb3370731884a8235e2fb3d4d71f2547")
	want := "00000005" + "00000004" + "215f83b7ccb9acbcd08db97b0d04dc2b" + "a1cd035833e0e90059603f26e07ad2aad152338e7a5e5984bcd5f7bb4eba40b7"
	got, e := lms.Public(lms.Tree{I: [16]byte(name), Seed: [32]byte(seed), W: 8, H: 5})
	if hex.EncodeToString(got) != want || e != api.OK {
		t.Errorf("%x, %d", got, e)
	}
}

func TestKnot(t *testing.T) {
	for _, tree := range someTrees() {
		nodes := plainNodes(tree)
		for r := 1; r < len(nodes); r++ {
			// The upper nodes of a great tree of the greatest width take long.
			if tree.W == 8 && tree.H > 3 && r > 1 && r < len(nodes)/4 {
				continue
			}
			if got, e := lms.Knot(tree, r); got != nodes[r] || e != api.OK {
				t.Errorf("Knot(%d), %s: %x, %d", r, tell(tree), got, e)
			}
		}
	}
}

// Small trees, word by word: the nodes 2 and 3 are those of the leaves 0 and 1, and node 1 is above them.
func TestKnotsOfTheLeastTree(t *testing.T) {
	for _, w := range widths {
		tree := ordinary(w, 1)
		name := string(tree.I[:])
		p0, _ := ots.Public(ots.Key{I: tree.I, Q: 0, Seed: tree.Seed, W: w})
		p1, _ := ots.Public(ots.Key{I: tree.I, Q: 1, Seed: tree.Seed, W: w})
		k2 := plainHash(name, "\x00\x00\x00\x02\x82\x82", string(p0[:]))
		k3 := plainHash(name, "\x00\x00\x00\x03\x82\x82", string(p1[:]))
		k1 := plainHash(name, "\x00\x00\x00\x01\x83\x83", string(k2[:]), string(k3[:]))
		for r, want := range []api.Hash{1: k1, 2: k2, 3: k3} {
			if got, e := lms.Knot(tree, r); r > 0 && (got != want || e != api.OK) {
				t.Errorf("Knot(%d), width %d: %x, %d", r, w, got, e)
			}
		}
		if got, _ := lms.Public(tree); string(got[24:]) != string(k1[:]) {
			t.Errorf("Public, width %d: %x", w, got)
		}
	}
}

func TestNoKnot(t *testing.T) {
	for _, w := range widths {
		for _, h := range heights {
			many := 1 << (h + 1)
			for _, r := range []int{
				0, -1, -2, -many, many, many + 1, 2*many - 1, 2 * many, 64, 100, 256 + 1, 1 << 32, 1<<32 + 1, 1<<62 + 1,
				math.MinInt, math.MinInt + 1, math.MaxInt - 1, math.MaxInt,
			} {
				if got, e := lms.Knot(ordinary(w, h), r); got != (api.Hash{}) || e != api.ErrArg {
					t.Errorf("Knot(%d), width %d, height %d: %x, %d", r, w, h, got, e)
				}
			}
		}
	}
}

func checkSign(t *testing.T, tree lms.Tree, q int, text string) {
	t.Helper()
	got, e := lms.Sign(tree, q, []byte(text))
	if string(got) != plainSign(tree, q, text) || e != api.OK {
		t.Errorf("Sign(%d, %.20q), %s: %.20x (%d bytes), %d", q, text, tell(tree), got, len(got), e)
	}
	if long, _ := lms.Long(tree); len(got) != long {
		t.Errorf("Sign(%d), %s: %d bytes, not %d", q, tell(tree), len(got), long)
	}
}

func TestSign(t *testing.T) {
	for _, tree := range someTrees() {
		for _, q := range someLeaves(tree) {
			checkSign(t, tree, q, "text")
		}
	}
}

func TestSignWithEachLeaf(t *testing.T) {
	for _, tree := range smallTrees() {
		for q := range 1 << tree.H {
			checkSign(t, tree, q, "text "+strconv.Itoa(q))
		}
	}
}

// someTexts are texts of no bytes, short and long ones.
func someTexts() []string {
	return []string{"", "a", "\x00", "text", "\xff\xfe\xfd", strings.Repeat("y", 64), strings.Repeat("long ", 20000)}
}

func TestSignTexts(t *testing.T) {
	for _, w := range widths {
		tree := ordinary(w, 1)
		for _, text := range someTexts() {
			checkSign(t, tree, 1, text)
		}
		none, e := lms.Sign(tree, 0, nil)
		if string(none) != plainSign(tree, 0, "") || e != api.OK {
			t.Errorf("Sign(nil), width %d: %d bytes, %d", w, len(none), e)
		}
	}
}

// Of leaf 1 of four: its node is 5, so that the siblings are 4 (below an odd node) and 3 (above an even one).
func TestSiblingsLowestFirst(t *testing.T) {
	for _, w := range widths {
		tree := ordinary(w, 2)
		nodes := plainNodes(tree)
		for q, want := range [][2]int{{5, 3}, {4, 3}, {7, 2}, {6, 2}} {
			got, _ := lms.Sign(tree, q, []byte("text"))
			ahead := 4 + once[w] + 4
			if len(got) != ahead+64 {
				t.Fatalf("width %d, leaf %d: %d bytes", w, q, len(got))
			}
			if string(got[ahead:ahead+32]) != string(nodes[want[0]][:]) || string(got[ahead+32:]) != string(nodes[want[1]][:]) {
				t.Errorf("width %d, leaf %d: siblings %x", w, q, got[ahead:])
			}
			if string(got[:4]) != "\x00\x00\x00"+string([]byte{byte(q)}) || string(got[ahead-4:ahead]) != "\x00\x00\x00\x66" {
				t.Errorf("width %d, leaf %d: number %x, type %x", w, q, got[:4], got[ahead-4:ahead])
			}
		}
	}
}

func TestSignWithNoLeaf(t *testing.T) {
	for _, w := range widths {
		for _, h := range heights {
			many := 1 << h
			for _, q := range []int{
				-1, -2, -many, many, many + 1, 2*many - 1, 2 * many, 32, 256, 1 << 32, 1<<32 + 1, -1 << 32,
				math.MinInt, math.MinInt + 1, math.MaxInt - 1, math.MaxInt,
			} {
				for _, text := range [][]byte{nil, {}, []byte("text")} {
					if got, e := lms.Sign(ordinary(w, h), q, text); len(got) != 0 || e != api.ErrSpent {
						t.Errorf("Sign(%d), width %d, height %d: %d bytes, %d", q, w, h, len(got), e)
					}
				}
			}
		}
	}
}

// want checks Verify against what is expected, and against the chapter's words.
func want(t *testing.T, expected api.Errno, public, text, signature, what string) {
	t.Helper()
	if plain := plainVerify(public, text, signature); plain != expected {
		t.Fatalf("%s: the test expects %d, but the chapter's words lead to %d", what, expected, plain)
	}
	if e := lms.Verify([]byte(public), []byte(text), []byte(signature)); e != expected {
		t.Errorf("%s: %d, not %d", what, e, expected)
	}
}

func TestVerify(t *testing.T) {
	for _, tree := range someTrees() {
		for _, q := range someLeaves(tree) {
			want(t, api.OK, plainPublic(tree), "text", plainSign(tree, q, "text"), tell(tree)+", leaf "+strconv.Itoa(q))
		}
	}
}

func TestVerifyByAPublicKeyOfAnotherLength(t *testing.T) {
	for _, tree := range smallTrees() {
		public, signature := plainPublic(tree), plainSign(tree, 0, "text")
		for _, n := range []int{0, 1, 3, 4, 7, 8, 24, 55, 57, 60, 88, 112} {
			b := (public + public)[:n]
			want(t, api.ErrForm, b, "text", signature, tell(tree)+", a public key of "+strconv.Itoa(n)+" bytes")
			want(t, api.ErrForm, b, "text", "", tell(tree)+", and no signature")
		}
		for _, s := range [][]byte{nil, {}, []byte(signature)} {
			if e := lms.Verify(nil, []byte("text"), s); e != api.ErrForm {
				t.Errorf("%s, no public key: %d", tell(tree), e)
			}
		}
	}
}

// replaced returns s with other bytes from a place on.
func replaced(s string, at int, by string) string {
	return s[:at] + by + s[at+len(by):]
}

func TestVerifyByAPublicKeyOfNoType(t *testing.T) {
	noKinds := []uint32{0, 1, 4, 6, 7, 8, 9, 99, 100, 105, 106, 107, 110, 256, 256 + 5, 5 << 8, 5 << 16, 5 << 24, 1<<24 + 5, 1<<31 + 5, 101 << 8, 101 << 24, 1<<16 + 101, math.MaxUint32 - 1, math.MaxUint32}
	noKeyKinds := []uint32{0, 5, 6, 7, 8, 16, 256, 256 + 1, 1 << 8, 1 << 16, 4 << 24, 1<<24 + 4, 1<<31 + 3, math.MaxUint32 - 1, math.MaxUint32}
	for _, tree := range smallTrees() {
		public, signature := plainPublic(tree), plainSign(tree, 0, "text")
		for _, kind := range noKinds {
			what := tell(tree) + ", type " + strconv.Itoa(int(kind))
			want(t, api.ErrForm, replaced(public, 0, four(kind)), "text", signature, what)
			// The signature may have the same type.
			want(t, api.ErrForm, replaced(public, 0, four(kind)), "text", replaced(signature, 4+once[tree.W], four(kind)), what+" of both")
		}
		for _, kind := range noKeyKinds {
			what := tell(tree) + ", type of one-time keys " + strconv.Itoa(int(kind))
			want(t, api.ErrForm, replaced(public, 4, four(kind)), "text", signature, what)
			want(t, api.ErrForm, replaced(public, 4, four(kind)), "text", replaced(signature, 4, four(kind)), what+" of both")
		}
		want(t, api.ErrForm, four(keyKinds[tree.W])+four(kinds[tree.H])+public[8:], "text", signature, tell(tree)+", types the wrong way round")
	}
}

func TestVerifyASignatureOfAnotherLength(t *testing.T) {
	for _, tree := range smallTrees() {
		public, signature := plainPublic(tree), plainSign(tree, 1, "text")
		long := len(signature)
		for _, n := range []int{0, 1, 3, 4, 7, 8, 11, 1124, 4 + once[tree.W], 8 + once[tree.W], long - 32, long - 1, long + 1, long + 4, long + 32, 2 * long} {
			want(t, api.ErrForm, public, "text", (signature + signature)[:n], tell(tree)+", a signature of "+strconv.Itoa(n)+" bytes")
		}
		if e := lms.Verify([]byte(public), []byte("text"), nil); e != api.ErrForm {
			t.Errorf("%s, no signature: %d", tell(tree), e)
		}
	}
}

func TestVerifyASignatureOfAnotherShape(t *testing.T) {
	for _, w := range widths {
		for _, h := range heights {
			signature := plainSign(ordinary(w, h), 1, "text")
			for _, v := range widths {
				for _, g := range heights {
					if v != w || g != h {
						want(t, api.ErrForm, plainPublic(ordinary(v, g)), "text", signature, tell(ordinary(w, h))+" by "+tell(ordinary(v, g)))
					}
				}
			}
		}
	}
}

// A signature of the right length that states another type, one that exists or none.
func TestVerifyASignatureOfAnotherType(t *testing.T) {
	for _, tree := range smallTrees() {
		public, signature := plainPublic(tree), plainSign(tree, 1, "text")
		for _, kind := range []uint32{0, 1, 2, 3, 4, 5, 6, 100, 101, 102, 103, 104, 105, 106, 1<<24 + 5, 1<<24 + 101, 101 << 24, 5 << 24, math.MaxUint32} {
			if kind != keyKinds[tree.W] {
				want(t, api.ErrForm, public, "text", replaced(signature, 4, four(kind)), tell(tree)+", one-time signature of type "+strconv.Itoa(int(kind)))
			}
			if kind != kinds[tree.H] {
				want(t, api.ErrForm, public, "text", replaced(signature, 4+once[tree.W], four(kind)), tell(tree)+", signature of type "+strconv.Itoa(int(kind)))
			}
		}
		// And a public key of another type than the signature's, whose length is the same.
		for i, kind := range kinds {
			if i != tree.H {
				short := signature[:8+once[tree.W]] + strings.Repeat("x", 32*i)
				want(t, api.ErrForm, replaced(public, 0, four(kind)), "text", short, tell(tree)+" by a key of type "+strconv.Itoa(int(kind)))
			}
		}
	}
}

func TestVerifyASignatureOfNoLeaf(t *testing.T) {
	for _, tree := range append(smallTrees(), ordinary(8, 5)) {
		public, signature := plainPublic(tree), plainSign(tree, 1, "text")
		many := uint32(1) << tree.H
		for _, q := range []uint32{many, many + 1, 2*many - 1, 2 * many, 32, 33, 255, 256, 257, 1 << 16, 1 << 24, 1 << 31, 1<<31 + 1, -many, math.MaxUint32 - 1, math.MaxUint32} {
			want(t, api.ErrForm, public, "text", four(q)+signature[4:], tell(tree)+", leaf "+strconv.Itoa(int(q)))
		}
		// One of another leaf has the form, and is false.
		for q := range many {
			if q != 1 {
				want(t, api.ErrFalse, public, "text", four(q)+signature[4:], tell(tree)+", leaf "+strconv.Itoa(int(q)))
			}
		}
	}
}

func TestVerifyAnotherText(t *testing.T) {
	for _, tree := range smallTrees() {
		public := plainPublic(tree)
		for _, q := range someLeaves(tree) {
			signature := plainSign(tree, q, "text")
			for _, text := range []string{"", "tex", "texts", "Text", "uext", "text\x00", "\x00text", strings.Repeat("text", 1000)} {
				want(t, api.ErrFalse, public, text, signature, tell(tree)+", another text")
			}
			if e := lms.Verify([]byte(public), nil, []byte(signature)); e != api.ErrFalse {
				t.Errorf("%s, no text: %d", tell(tree), e)
			}
		}
	}
}

func TestVerifyByAnotherPublicKey(t *testing.T) {
	for _, tree := range smallTrees() {
		public, signature := plainPublic(tree), plainSign(tree, 1, "text")
		other := tree
		other.Seed[31] ^= 1
		want(t, api.ErrFalse, plainPublic(other), "text", signature, tell(tree)+", another seed")
		other = tree
		other.I[0] ^= 128
		want(t, api.ErrFalse, plainPublic(other), "text", signature, tell(tree)+", another identifier")
		// Of a public key each byte behind the types counts.
		for i := 8; i < 56; i++ {
			want(t, api.ErrFalse, replaced(public, i, string([]byte{public[i] ^ 1})), "text", signature, tell(tree)+", byte "+strconv.Itoa(i)+" of the public key")
		}
	}
}

func TestVerifyAChangedSignature(t *testing.T) {
	for _, tree := range smallTrees() {
		public := plainPublic(tree)
		for _, q := range someLeaves(tree) {
			good := plainSign(tree, q, "text")
			second := 4 + once[tree.W] // where the type of the tree stands
			step := 1 + len(good)/40
			for i := 8; i < len(good); i += step {
				if i < second || i >= second+4 {
					changed := replaced(good, i, string([]byte{good[i] ^ 1<<(i%8)}))
					want(t, api.ErrFalse, public, "text", changed, tell(tree)+", byte "+strconv.Itoa(i))
				}
			}
			// The bytes at the ends of the parts.
			for _, i := range []int{8, 39, 40, second - 1, second + 4, second + 35, len(good) - 32, len(good) - 1} {
				want(t, api.ErrFalse, public, "text", replaced(good, i, string([]byte{^good[i]})), tell(tree)+", byte "+strconv.Itoa(i))
			}
		}
	}
}

func TestVerifyEachByte(t *testing.T) {
	tree := ordinary(4, 2)
	public, good := plainPublic(tree), plainSign(tree, 2, "text")
	for i := range good {
		changed := []byte(good)
		changed[i] ^= 1
		expected := api.ErrFalse
		if i < 3 || i >= 4 && i < 8 || i >= 2184 && i < 2188 {
			expected = api.ErrForm
		}
		want(t, expected, public, "text", string(changed), "byte "+strconv.Itoa(i))
	}
}

// Siblings in another order, or of another leaf, do not lead to node 1.
func TestVerifyOtherSiblings(t *testing.T) {
	for _, w := range widths {
		tree := ordinary(w, 3)
		public := plainPublic(tree)
		for q := range 8 {
			good := plainSign(tree, q, "text")
			end := len(good) - 96
			a, b, c := good[end:end+32], good[end+32:end+64], good[end+64:]
			for _, l := range []string{a + c + b, b + a + c, c + b + a, b + c + a, c + a + b, a + a + a} {
				want(t, api.ErrFalse, public, "text", good[:end]+l, tell(tree)+", other siblings")
			}
			other := plainSign(tree, (q+1)%8, "text")
			want(t, api.ErrFalse, public, "text", good[:end]+other[end:], tell(tree)+", those of another leaf")
		}
	}
}

func TestLeaf(t *testing.T) {
	for _, tree := range smallTrees() {
		for q := range 1 << tree.H {
			signature, _ := lms.Sign(tree, q, []byte("text"))
			if got, e := lms.Leaf(signature); got != q || e != api.OK {
				t.Errorf("Leaf, %s, leaf %d: %d, %d", tell(tree), q, got, e)
			}
		}
	}
	for _, c := range []struct {
		b    string
		want int
	}{
		{"\x00\x00\x00\x00", 0}, {"\x00\x00\x00\x07", 7}, {"\x01\x02\x03\x04", 0x01020304}, {"\x80\x00\x00\x00", 1 << 31},
		{"\xff\xff\xff\xff", math.MaxUint32}, {"\x00\x00\x01\x00\xff", 256}, {"\x00\x00\x00\x03 more than four bytes", 3},
	} {
		if got, e := lms.Leaf([]byte(c.b)); got != c.want || e != api.OK {
			t.Errorf("Leaf(%x) = %d, %d", c.b, got, e)
		}
	}
}

func TestLeafOfTooFewBytes(t *testing.T) {
	// The bytes behind the end of a slice do not count.
	whole := []byte{1, 2, 3, 4, 5}
	for _, b := range [][]byte{nil, {}, {1}, {0, 0}, {1, 2, 3}, {255, 255, 255}, whole[:0], whole[:3]} {
		if got, e := lms.Leaf(b); got != 0 || e != api.ErrShort {
			t.Errorf("Leaf(%x) = %d, %d", b, got, e)
		}
	}
}

// framed returns b between bytes that are not part of it, the ones behind within its capacity, and a call that tells whether all are as they were.
func framed(b string) ([]byte, func() bool) {
	whole := []byte("<<<" + b + ">>>" + strings.Repeat("*", 100))
	before := string(whole)
	return whole[3 : 3+len(b)], func() bool { return string(whole) == before }
}

func TestNothingHandedInIsChanged(t *testing.T) {
	for _, tree := range append(smallTrees(), lms.Tree{}, lms.Tree{W: 3, H: 1}, lms.Tree{W: 4, H: 6}) {
		for _, s := range someTexts() {
			for _, q := range []int{0, 1, -1, 64} {
				text, same := framed(s)
				lms.Sign(tree, q, text)
				if !same() {
					t.Errorf("Sign(%d, %.20q), %s, changes the text", q, s, tell(tree))
				}
			}
		}
	}
	for _, tree := range smallTrees() {
		key, good := plainPublic(tree), plainSign(tree, 1, "text")
		for _, k := range []string{key, key[:55], key + "x", "", replaced(key, 0, "\xff"), replaced(key, 30, "\xff\x00")} {
			for _, s := range []string{good, good[:len(good)-1], good + "x", good[:4], good[:3], "", "\x09" + good[1:], replaced(good, 50, "\xff\x00")} {
				for _, text := range []string{"text", "", "another one"} {
					public, samePublic := framed(k)
					b, sameText := framed(text)
					signature, sameSignature := framed(s)
					lms.Verify(public, b, signature)
					lms.Leaf(signature)
					if !samePublic() || !sameText() || !sameSignature() {
						t.Errorf("Verify, %s, %d and %d bytes, changes what it is given", tell(tree), len(k), len(s))
					}
				}
			}
		}
	}
}

// spoil overwrites an answer, and what its capacity has room for.
func spoil(b []byte) {
	b = b[:cap(b)]
	for i := range b {
		b[i] = 0xee
	}
	_ = append(b[:0], 0xdd)
}

func TestAnswersAreTheCallers(t *testing.T) {
	for _, tree := range smallTrees() {
		text := []byte("text")
		public, _ := lms.Public(tree)
		otherPublic, _ := lms.Public(tree)
		signature, _ := lms.Sign(tree, 1, text)
		otherSignature, _ := lms.Sign(tree, 1, text)
		spoil(public)
		spoil(signature)
		copy(text, "TEXT")
		thirdPublic, _ := lms.Public(tree)
		thirdSignature, _ := lms.Sign(tree, 1, []byte("text"))
		for _, b := range [][]byte{otherPublic, thirdPublic} {
			if string(b) != plainPublic(tree) {
				t.Errorf("%s: Public changes with an earlier answer", tell(tree))
			}
		}
		for _, b := range [][]byte{otherSignature, thirdSignature} {
			if string(b) != plainSign(tree, 1, "text") {
				t.Errorf("%s: Sign changes with an earlier answer", tell(tree))
			}
		}
		if e := lms.Verify(thirdPublic, []byte("text"), otherSignature); e != api.OK {
			t.Errorf("%s: Verify changes with an earlier answer: %d", tell(tree), e)
		}
		if got, _ := lms.Knot(tree, 1); got != plainNodes(tree)[1] {
			t.Errorf("%s: Knot changes with an earlier answer", tell(tree))
		}
	}
}

// A tree does not remember what it signed: a leaf may sign again, and signs another text differently.
func TestNothingIsKept(t *testing.T) {
	tree := ordinary(2, 2)
	for range 2 {
		for _, q := range []int{3, 0, 3, 2, 0, 1} {
			for _, text := range []string{"a", "b"} {
				checkSign(t, tree, q, text)
			}
		}
	}
}

// checkVerifies: what a tree signs is correct for its public key and that text, and for no longer one.
func checkVerifies(t *testing.T, tree lms.Tree, public []byte, q int, text []byte) {
	t.Helper()
	signature, e := lms.Sign(tree, q, text)
	if f := lms.Verify(public, text, signature); e != api.OK || f != api.OK {
		t.Errorf("%s, leaf %d, text %.20q: %d, %d", tell(tree), q, text, e, f)
	}
	if leaf, f := lms.Leaf(signature); leaf != q || f != api.OK {
		t.Errorf("%s, leaf %d: Leaf %d, %d", tell(tree), q, leaf, f)
	}
	if f := lms.Verify(public, append(slices.Clone(text), 'x'), signature); f != api.ErrFalse {
		t.Errorf("%s, leaf %d: another text: %d", tell(tree), q, f)
	}
}

func TestWhatIsSignedIsVerified(t *testing.T) {
	for _, tree := range someTrees() {
		public, _ := lms.Public(tree)
		last := 1<<tree.H - 1
		for q, text := range map[int][]byte{0: nil, last: []byte("short"), last * 2 / 3: bytes.Repeat([]byte("long"), 1000)} {
			checkVerifies(t, tree, public, q, text)
		}
	}
	for _, w := range widths {
		tree := ordinary(w, 2)
		public, _ := lms.Public(tree)
		for _, q := range []int{0, 1, 3} {
			for _, text := range [][]byte{nil, {}, []byte("short"), bytes.Repeat([]byte("long"), 1000)} {
				checkVerifies(t, tree, public, q, text)
			}
		}
	}
}

func TestWhatIsSignedWithEachLeafIsVerified(t *testing.T) {
	for _, tree := range smallTrees() {
		public, _ := lms.Public(tree)
		for q := range 1 << tree.H {
			checkVerifies(t, tree, public, q, []byte("text "+strconv.Itoa(q)))
		}
	}
}

func FuzzSign(f *testing.F) {
	f.Add([]byte("name"), []byte("seed"), 2, 2, 1, []byte("text"))
	f.Add([]byte(nil), []byte(nil), 0, 5, 31, []byte(nil))
	f.Fuzz(func(t *testing.T, name, seed []byte, at, h, q int, text []byte) {
		// The greatest trees take long.
		tree := lms.Tree{W: widths[uint(at)%4], H: 1 + int(uint(h)%3)}
		copy(tree.I[:], name)
		copy(tree.Seed[:], seed)
		got, e := lms.Sign(tree, q, text)
		if q < 0 || q >= 1<<tree.H {
			if got != nil || e != api.ErrSpent {
				t.Errorf("%s, leaf %d: %x, %d", tell(tree), q, got, e)
			}
			q = int(uint(q) % (1 << tree.H))
		}
		public, _ := lms.Public(tree)
		checkVerifies(t, tree, public, q, text)
	})
}

func FuzzVerify(f *testing.F) {
	for _, w := range widths {
		tree := ordinary(w, 2)
		f.Add([]byte(plainPublic(tree)), []byte("text"), []byte(plainSign(tree, 1, "text")))
	}
	f.Add([]byte(nil), []byte(nil), []byte{0, 0, 0})
	f.Fuzz(func(t *testing.T, public, text, signature []byte) {
		expected := plainVerify(string(public), string(text), string(signature))
		if e := lms.Verify(public, text, signature); e != expected {
			t.Errorf("Verify(%x, %q, %.20x (%d bytes)): %d, not %d", public, text, signature, len(signature), e, expected)
		}
	})
}

func BenchmarkSign(b *testing.B) {
	for _, w := range widths {
		b.Run(strconv.Itoa(w), func(b *testing.B) {
			for b.Loop() {
				lms.Sign(ordinary(w, 5), 0, []byte("text"))
			}
		})
	}
}
