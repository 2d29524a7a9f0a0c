package ots_test

import (
	"bytes"
	"crypto/sha256"
	"encoding/binary"
	"encoding/hex"
	"math"
	"math/rand/v2"
	"slices"
	"strconv"
	"strings"
	"testing"

	"consistory/api"
	"consistory/ots"
)

var widths = []int{1, 2, 4, 8}

// noWidths are numbers near the widths, multiples and negatives of them, and numbers whose low bits are a width.
var noWidths = []int{
	0, 3, 5, 6, 7, 9, 12, 15, 16, 32, 64, 255, 256, 257, 264, 1 << 32, 1<<32 + 4,
	-1, -2, -3, -4, -8, -16, math.MinInt, math.MinInt + 8, math.MaxInt, math.MaxInt - 1,
}

// form is what a width determines.
type form struct {
	kind                              uint32
	own, check, shift, greatest, long int
}

// forms are those of RFC 8554 (table 1, and the types of section 3.3), and the greatest digits.
var forms = map[int]form{
	1: {1, 256, 9, 7, 1, 8516},
	2: {2, 128, 5, 6, 3, 4292},
	4: {3, 64, 3, 4, 15, 2180},
	8: {4, 32, 2, 0, 255, 1124},
}

func (f form) many() int { return f.own + f.check }

// noDigits are numbers that no digit has.
func noDigits(w int) []int {
	many := forms[w].many()
	return []int{
		-1, -2, -many, many, many + 1, many + 255, 1000, 65535, 65536, 1 << 32, -1 << 32, 1<<32 + 1,
		math.MinInt, math.MinInt + 1, math.MaxInt - 1, math.MaxInt,
	}
}

// The plain functions below are the chapter's words, with the library's SHA-256.

func plainHash(parts ...string) api.Hash {
	return sha256.Sum256([]byte(strings.Join(parts, "")))
}

func plainPrefix(name [16]byte, q uint32) string {
	return string(binary.BigEndian.AppendUint32(name[:], q))
}

func two(n int) string { return string([]byte{byte(n / 256), byte(n % 256)}) }

func plainSecret(k ots.Key, i int) api.Hash {
	return plainHash(plainPrefix(k.I, k.Q), two(i), "\xff", string(k.Seed[:]))
}

func plainChain(prefix string, i, a, b int, x api.Hash) api.Hash {
	for j := a; j <= b-1; j++ {
		x = plainHash(prefix, two(i), string([]byte{byte(j)}), string(x[:]))
	}
	return x
}

func plainPublic(k ots.Key) api.Hash {
	prefix := plainPrefix(k.I, k.Q)
	all := prefix + "\x80\x80"
	for i := range forms[k.W].many() {
		end := plainChain(prefix, i, 0, forms[k.W].greatest, plainSecret(k, i))
		all += string(end[:])
	}
	return plainHash(all)
}

// plainDigits writes the bits of b as text, and reads them in groups of w.
func plainDigits(b []byte, w int) []int {
	text := ""
	for _, c := range b {
		s := strconv.FormatInt(int64(c), 2)
		text += strings.Repeat("0", 8-len(s)) + s
	}
	var l []int
	for group := range slices.Chunk([]byte(text), w) {
		n, _ := strconv.ParseInt(string(group), 2, 64)
		l = append(l, int(n))
	}
	return l
}

func plainAllDigits(h api.Hash, w int) []int {
	l := plainDigits(h[:], w)
	sum := 0
	for _, d := range l {
		sum += forms[w].greatest - d
	}
	for range forms[w].shift {
		sum *= 2
	}
	return append(l, plainDigits([]byte(two(sum)), w)[:forms[w].check]...)
}

func plainRandomizer(k ots.Key) api.Hash {
	return plainHash(plainPrefix(k.I, k.Q), "\xff\xfd\xff", string(k.Seed[:]))
}

func plainMessage(prefix, randomizer, text string) api.Hash {
	return plainHash(prefix, "\x81\x81", randomizer, text)
}

func plainSign(k ots.Key, text string) string {
	prefix := plainPrefix(k.I, k.Q)
	r := plainRandomizer(k)
	s := "\x00\x00\x00" + string([]byte{byte(forms[k.W].kind)}) + string(r[:])
	for i, d := range plainAllDigits(plainMessage(prefix, string(r[:]), text), k.W) {
		x := plainChain(prefix, i, 0, d, plainSecret(k, i))
		s += string(x[:])
	}
	return s
}

// plainCandidate requires a signature of width w.
func plainCandidate(name [16]byte, q uint32, text, signature string, w int) api.Hash {
	prefix := plainPrefix(name, q)
	all := prefix + "\x80\x80"
	for i, d := range plainAllDigits(plainMessage(prefix, signature[4:36], text), w) {
		x := api.Hash([]byte(signature[36+32*i : 68+32*i]))
		end := plainChain(prefix, i, d, forms[w].greatest, x)
		all += string(end[:])
	}
	return plainHash(all)
}

// someKeys are keys of a width: of zero bytes, of bytes 255, and of mixed bytes, at the least and the greatest leaf and between.
func someKeys(w int) []ots.Key {
	zero, full := ots.Key{W: w}, ots.Key{Q: math.MaxUint32, W: w}
	for i := range full.I {
		full.I[i] = 255
	}
	for i := range full.Seed {
		full.Seed[i] = 255
	}
	l := []ots.Key{zero, full}
	r := rand.New(rand.NewPCG(4, uint64(w)))
	for _, q := range []uint32{0, 1, 0x01020304, math.MaxUint32} {
		k := ots.Key{I: [16]byte(mixed(r, 16)), Q: q, Seed: [32]byte(mixed(r, 32)), W: w}
		l = append(l, k)
	}
	return l
}

func mixed(r *rand.Rand, n int) []byte {
	b := make([]byte, n)
	for i := range b {
		b[i] = byte(r.Uint32())
	}
	return b
}

// ordinary is a key of mixed bytes.
func ordinary(w int) ots.Key { return someKeys(w)[4] }

// someTexts are texts of no bytes, short and long ones, and such as end near that of a block of the hash.
func someTexts() []string {
	return []string{
		"", "a", "\x00", "text", "\xff\xfe\xfd", "/a/b", strings.Repeat("x", 9), strings.Repeat("x", 10),
		strings.Repeat("y", 64), strings.Repeat("z", api.MaxText), strings.Repeat("long ", 20000),
	}
}

func TestLongAndType(t *testing.T) {
	for _, w := range widths {
		f := forms[w]
		if got, e := ots.Long(w); got != f.long || got != 4+32+f.many()*32 || e != api.OK {
			t.Errorf("Long(%d) = %d, %d", w, got, e)
		}
		if got, e := ots.Type(w); got != f.kind || e != api.OK {
			t.Errorf("Type(%d) = %d, %d", w, got, e)
		}
	}
	if got, _ := ots.Long(4); got != 4+32+67*32 {
		t.Errorf("Long(4) = %d", got)
	}
}

func TestNoWidth(t *testing.T) {
	x := plainHash("some hash")
	for _, w := range noWidths {
		k := ordinary(4)
		k.W = w
		if got, e := ots.Long(w); got != 0 || e != api.ErrArg {
			t.Errorf("Long(%d) = %d, %d", w, got, e)
		}
		if got, e := ots.Type(w); got != 0 || e != api.ErrArg {
			t.Errorf("Type(%d) = %d, %d", w, got, e)
		}
		if got, e := ots.Public(k); got != (api.Hash{}) || e != api.ErrArg {
			t.Errorf("Public, width %d: %x, %d", w, got, e)
		}
		for _, text := range [][]byte{nil, {}, []byte("text")} {
			if got, e := ots.Sign(k, text); len(got) != 0 || e != api.ErrArg {
				t.Errorf("Sign(%q), width %d: %x, %d", text, w, got, e)
			}
		}
		for _, i := range []int{0, 1, 33, -1, math.MinInt, math.MaxInt} {
			if got, e := ots.Secret(k, i); got != (api.Hash{}) || e != api.ErrArg {
				t.Errorf("Secret(%d), width %d: %x, %d", i, w, got, e)
			}
			for _, c := range [][2]int{{0, 0}, {0, 1}, {1, 1}, {1, 0}, {-1, 0}, {0, math.MaxInt}} {
				if got, e := ots.Chain(k, i, c[0], c[1], x); got != (api.Hash{}) || e != api.ErrArg {
					t.Errorf("Chain(%d, %d), width %d: %x, %d", i, c, w, got, e)
				}
			}
		}
	}
}

func TestSecret(t *testing.T) {
	for _, w := range widths {
		for _, k := range someKeys(w) {
			for i := range forms[w].many() {
				if got, e := ots.Secret(k, i); got != plainSecret(k, i) || e != api.OK {
					t.Errorf("Secret %d, width %d, leaf %d: %x, %d", i, w, k.Q, got, e)
				}
			}
		}
	}
}

func TestSecretOfNoDigit(t *testing.T) {
	for _, w := range widths {
		for _, i := range noDigits(w) {
			if got, e := ots.Secret(ordinary(w), i); got != (api.Hash{}) || e != api.ErrArg {
				t.Errorf("Secret %d, width %d: %x, %d", i, w, got, e)
			}
		}
	}
}

// someSteps are the whole chain, a step to itself, and a step to the next one, at both ends and between.
func someSteps(w int) [][2]int {
	last := forms[w].greatest
	mid := last / 2
	return [][2]int{
		{0, last}, {0, 0}, {last, last}, {mid, mid}, {0, 1}, {last - 1, last}, {mid, mid + 1}, {mid, last}, {0, mid},
	}
}

func TestChain(t *testing.T) {
	for _, w := range widths {
		for _, k := range someKeys(w) {
			many := forms[w].many()
			for _, i := range []int{0, 1, forms[w].own - 1, forms[w].own, many - 1} {
				for _, x := range []api.Hash{{}, plainSecret(k, i), plainHash("another hash")} {
					for _, c := range someSteps(w) {
						want := plainChain(plainPrefix(k.I, k.Q), i, c[0], c[1], x)
						if got, e := ots.Chain(k, i, c[0], c[1], x); got != want || e != api.OK {
							t.Errorf("Chain %d, %d, width %d, leaf %d: %x, %d", i, c, w, k.Q, got, e)
						}
					}
				}
			}
		}
	}
}

func TestChainFromAStepToItself(t *testing.T) {
	for _, w := range widths {
		x := plainHash("some hash")
		for step := range forms[w].greatest + 1 {
			if got, e := ots.Chain(ordinary(w), 0, step, step, x); got != x || e != api.OK {
				t.Errorf("Chain from %d to itself, width %d: %x, %d", step, w, got, e)
			}
		}
	}
}

func TestChainOfNoDigit(t *testing.T) {
	x := plainHash("some hash")
	for _, w := range widths {
		for _, i := range noDigits(w) {
			for _, c := range someSteps(w) {
				if got, e := ots.Chain(ordinary(w), i, c[0], c[1], x); got != (api.Hash{}) || e != api.ErrArg {
					t.Errorf("Chain %d, %d, width %d: %x, %d", i, c, w, got, e)
				}
			}
		}
	}
}

func TestChainOfNoSteps(t *testing.T) {
	x := plainHash("some hash")
	for _, w := range widths {
		last := forms[w].greatest
		for _, c := range [][2]int{
			// from is negative.
			{-1, 0}, {-1, last}, {-1, -1}, {-2, -1}, {math.MinInt, 0}, {math.MinInt, math.MinInt}, {math.MinInt, last}, {-256, 0},
			// from is above to.
			{1, 0}, {last, 0}, {last, last - 1}, {0, -1}, {0, math.MinInt}, {1, -1},
			// to is above the last step.
			{0, last + 1}, {last, last + 1}, {last + 1, last + 1}, {0, 256}, {256, 256}, {0, math.MaxInt}, {math.MaxInt, math.MaxInt}, {256, 257},
			// Several of these.
			{-1, last + 1}, {last + 2, last + 1}, {math.MaxInt, math.MinInt}, {math.MinInt, math.MaxInt},
		} {
			for _, i := range []int{0, forms[w].many() - 1} {
				if got, e := ots.Chain(ordinary(w), i, c[0], c[1], x); got != (api.Hash{}) || e != api.ErrArg {
					t.Errorf("Chain %d, %d, width %d: %x, %d", i, c, w, got, e)
				}
			}
		}
	}
}

func TestPublic(t *testing.T) {
	for _, w := range widths {
		for _, k := range someKeys(w) {
			if got, e := ots.Public(k); got != plainPublic(k) || e != api.OK {
				t.Errorf("Public, width %d, leaf %d: %x, %d", w, k.Q, got, e)
			}
		}
	}
}

// fromHex requires hexadecimal text.
func fromHex(text string) []byte {
	b, err := hex.DecodeString(text)
	if err != nil {
		panic(err)
	}
	return b
}

// rfcRoot is the hash of node 1 of a tree of RFC 8554 (section 5.3) over the public hashes of 2^height keys.
func rfcRoot(k ots.Key, height int) string {
	leaves := 1 << height
	nodes := make([]api.Hash, 2*leaves)
	for r := len(nodes) - 1; r > 0; r-- {
		ahead := plainPrefix(k.I, uint32(r))
		if r >= leaves {
			k.Q = uint32(r - leaves)
			public, _ := ots.Public(k)
			nodes[r] = plainHash(ahead, "\x82\x82", string(public[:]))
		} else {
			nodes[r] = plainHash(ahead, "\x83\x83", string(nodes[2*r][:]), string(nodes[2*r+1][:]))
		}
	}
	return hex.EncodeToString(nodes[1][:])
}

// The keys of test case 2 of RFC 8554 (appendix F) lead to its public keys, and to its randomizer.
func TestKeysOfTheRFC(t *testing.T) {
	for _, c := range []struct {
		name, seed string
		w, height  int
		root       string
	}{
		{
			"d08fabd4a2091ff0a8cb4ed834e74534", "558b8966c48ae9cb898b423c83443aae014a72f1b1ab5cc85cf1d892903b5439",
			4, 10, "32a58885cd9ba0431235466bff9651c6c92124404d45fa53cf161c28f1ad5a8e",
		},
		{
			"215f83b7ccb9acbcd08db97b0d04dc2b", "a1c4696e2608035a886100d05cd99945eb3370731884a8235e2fb3d4d71f2547",
			8, 5, "a1cd035833e0e90059603f26e07ad2aad152338e7a5e5984bcd5f7bb4eba40b7",
		},
	} {
		k := ots.Key{I: [16]byte(fromHex(c.name)), Seed: [32]byte(fromHex(c.seed)), W: c.w}
		if got := rfcRoot(k, c.height); got != c.root {
			t.Errorf("width %d: the root is %s, not %s", c.w, got, c.root)
		}
	}
	k := ots.Key{
		I:    [16]byte(fromHex("d08fabd4a2091ff0a8cb4ed834e74534")),
		Q:    3,
		Seed: [32]byte(fromHex("558b8966c48ae9cb898b423c83443aae014a72f1b1ab5cc85cf1d892903b5439")),
		W:    4,
	}
	signature, _ := ots.Sign(k, nil)
	if len(signature) < 36 || hex.EncodeToString(signature[4:36]) != "3d46bee8660f8f215d3f96408a7a64cf1c4da02b63a55f62c666ef5707a914ce" {
		t.Errorf("the randomizer of leaf 3: %.36x", signature)
	}
}

func TestSign(t *testing.T) {
	for _, w := range widths {
		for _, k := range someKeys(w) {
			for _, text := range someTexts() {
				if got, e := ots.Sign(k, []byte(text)); string(got) != plainSign(k, text) || e != api.OK {
					t.Errorf("Sign(%.20q), width %d, leaf %d: %.40x, %d", text, w, k.Q, got, e)
				}
			}
		}
	}
}

func TestSignNothing(t *testing.T) {
	for _, w := range widths {
		k := ordinary(w)
		want := plainSign(k, "")
		for _, text := range [][]byte{nil, {}, []byte("spare")[:0]} {
			if got, e := ots.Sign(k, text); string(got) != want || e != api.OK {
				t.Errorf("Sign of nothing, width %d: %.40x, %d", w, got, e)
			}
			if got, e := ots.Candidate(k.I, k.Q, text, []byte(want)); got != plainPublic(k) || e != api.OK {
				t.Errorf("Candidate of nothing, width %d: %x, %d", w, got, e)
			}
		}
	}
}

// Each field of a key has its part in each hash.
func TestKeysThatDiffer(t *testing.T) {
	for _, w := range widths {
		k := ordinary(w)
		others := []ots.Key{k, k, k, k, k}
		others[0].I[0] ^= 1
		others[1].I[15] ^= 1
		others[2].Q ^= 1 << 31
		others[3].Seed[0] ^= 1
		others[4].Seed[31] ^= 1
		secret, _ := ots.Secret(k, 0)
		public, _ := ots.Public(k)
		signature, _ := ots.Sign(k, nil)
		for i, o := range others {
			s, _ := ots.Secret(o, 0)
			p, _ := ots.Public(o)
			g, _ := ots.Sign(o, nil)
			if s == secret || p == public || bytes.Equal(g[4:36], signature[4:36]) || bytes.Equal(g[36:], signature[36:]) {
				t.Errorf("width %d: key %d is like the first one", w, i)
			}
		}
	}
}

func TestCandidateOfSignatures(t *testing.T) {
	for _, w := range widths {
		for _, k := range someKeys(w) {
			for _, text := range someTexts() {
				s := plainSign(k, text)
				if got, e := ots.Candidate(k.I, k.Q, []byte(text), []byte(s)); got != plainPublic(k) || e != api.OK {
					t.Errorf("Candidate(%.20q), width %d, leaf %d: %x, %d", text, w, k.Q, got, e)
				}
			}
		}
	}
}

// Whatever bytes have the form of a signature have a candidate, though it is that of no key.
func TestCandidateOfBytes(t *testing.T) {
	r := rand.New(rand.NewPCG(4, 0))
	for _, w := range widths {
		for _, k := range someKeys(w) {
			s := "\x00\x00\x00" + string([]byte{byte(forms[w].kind)}) + string(mixed(r, forms[w].long-4))
			for _, text := range someTexts() {
				want := plainCandidate(k.I, k.Q, text, s, w)
				if got, e := ots.Candidate(k.I, k.Q, []byte(text), []byte(s)); got != want || e != api.OK {
					t.Errorf("Candidate(%.20q), width %d, leaf %d: %x, %d", text, w, k.Q, got, e)
				}
			}
		}
	}
}

// What is not what the key signed has another candidate.
func TestCandidateOfSomethingElse(t *testing.T) {
	for _, w := range widths {
		k := ordinary(w)
		text := []byte("text")
		signature, _ := ots.Sign(k, text)
		public, _ := ots.Public(k)
		name := k.I
		name[7] ^= 1
		if got, e := ots.Candidate(name, k.Q, text, signature); got == public || e != api.OK {
			t.Errorf("width %d, another name: %x, %d", w, got, e)
		}
		if got, e := ots.Candidate(k.I, k.Q+1, text, signature); got == public || e != api.OK {
			t.Errorf("width %d, another leaf: %x, %d", w, got, e)
		}
		for _, other := range []string{"", "texT", "text ", "tex"} {
			if got, e := ots.Candidate(k.I, k.Q, []byte(other), signature); got == public || e != api.OK {
				t.Errorf("width %d, the text %q: %x, %d", w, other, got, e)
			}
		}
		for _, at := range []int{4, 35, 36, 67, 68, len(signature) - 32, len(signature) - 1} {
			changed := slices.Clone(signature)
			changed[at] ^= 1
			if got, e := ots.Candidate(k.I, k.Q, text, changed); got == public || e != api.OK {
				t.Errorf("width %d, byte %d changed: %x, %d", w, at, got, e)
			}
		}
	}
}

func wantNoCandidate(t *testing.T, signature []byte, want api.Errno) {
	t.Helper()
	k := ordinary(4)
	for _, text := range [][]byte{nil, []byte("text")} {
		if got, e := ots.Candidate(k.I, k.Q, text, signature); got != (api.Hash{}) || e != want {
			t.Errorf("Candidate of %.8x (%d bytes): %x, %d, not the error %d", signature, len(signature), got, e, want)
		}
	}
}

func TestCandidateOfTooFewBytes(t *testing.T) {
	spare := []byte("\x00\x00\x00\x03" + strings.Repeat("\x00", 2176))
	for _, s := range [][]byte{nil, {}, {0}, {9}, {0, 0}, {0, 0, 0}, {255, 255, 255}, {1, 2, 3}, spare[:0], spare[:3]} {
		wantNoCandidate(t, s, api.ErrShort)
	}
}

func TestCandidateOfNoType(t *testing.T) {
	for _, kind := range []uint32{
		0, 5, 6, 7, 8, 9, 16, 255, 256, 257, 260, 1 << 16, 1<<16 + 1, 1 << 24, 1<<24 + 3, 2 << 24, 3 << 24, 4 << 24, 1 << 31, 1<<31 + 4, math.MaxUint32 - 1, math.MaxUint32,
	} {
		ahead := binary.BigEndian.AppendUint32(nil, kind)
		wantNoCandidate(t, ahead, api.ErrForm)
		for _, w := range widths {
			wantNoCandidate(t, append(slices.Clone(ahead), make([]byte, forms[w].long-4)...), api.ErrForm)
		}
	}
}

func TestCandidateOfAnotherLength(t *testing.T) {
	for _, w := range widths {
		whole := []byte(plainSign(ordinary(w), "text"))
		whole = append(whole, make([]byte, 9000)...)
		long := forms[w].long
		for _, n := range []int{4, 5, 35, 36, 37, 68, long - 32, long - 1, long + 1, long + 32, 1124, 2180, 4292, 8516, len(whole)} {
			if n != long {
				wantNoCandidate(t, whole[:n], api.ErrForm)
			}
		}
	}
}

// framed returns b between bytes that are not part of it, the ones behind within its capacity, and a call that tells whether all are as they were.
func framed(b string) ([]byte, func() bool) {
	whole := []byte("<<<" + b + ">>>" + strings.Repeat("*", 100))
	before := string(whole)
	return whole[3 : 3+len(b)], func() bool { return string(whole) == before }
}

func TestNothingHandedInIsChanged(t *testing.T) {
	for _, w := range append(slices.Clone(widths), 0, 3, 16) {
		for _, s := range someTexts() {
			k := ordinary(4)
			k.W = w
			text, same := framed(s)
			ots.Sign(k, text)
			if !same() {
				t.Errorf("Sign(%.20q), width %d, changes the text", s, w)
			}
		}
	}
	for _, w := range widths {
		k := ordinary(w)
		name := k.I
		good := plainSign(k, "text")
		for _, s := range []string{good, good[:len(good)-1], good + "x", good[:4], good[:3], "", "\x09" + good[1:]} {
			for _, text := range someTexts() {
				b, sameText := framed(text)
				signature, sameSignature := framed(s)
				ots.Candidate(name, k.Q, b, signature)
				if !sameText() || !sameSignature() || name != k.I {
					t.Errorf("Candidate(%.20q) of %d bytes, width %d, changes what it is given", text, len(s), w)
				}
			}
		}
	}
}

func TestSignaturesAreTheCallers(t *testing.T) {
	for _, w := range widths {
		k := ordinary(w)
		text := []byte("text")
		want := plainSign(k, "text")
		first, _ := ots.Sign(k, text)
		second, _ := ots.Sign(k, text)
		for i := range first[:cap(first)] {
			first[:cap(first)][i] = 0xee
		}
		_ = append(first, 0xdd)
		copy(text, "TEXT")
		third, _ := ots.Sign(k, []byte("text"))
		if string(second) != want || string(third) != want {
			t.Errorf("width %d: Sign changes with an earlier answer", w)
		}
		if got, _ := ots.Public(k); got != plainPublic(k) {
			t.Errorf("width %d: Public changes with an answer of Sign", w)
		}
		if got, _ := ots.Candidate(k.I, k.Q, []byte("text"), second); got != plainPublic(k) {
			t.Errorf("width %d: Candidate changes with an answer of Sign", w)
		}
	}
}

// checkVerifies: the candidate of what a key signs is its public hash.
func checkVerifies(t *testing.T, k ots.Key, text []byte) {
	t.Helper()
	public, e := ots.Public(k)
	signature, f := ots.Sign(k, text)
	got, g := ots.Candidate(k.I, k.Q, text, signature)
	if got != public || public == (api.Hash{}) || e != api.OK || f != api.OK || g != api.OK {
		t.Errorf("width %d, leaf %d, text %.20q: %x, not %x (%d, %d, %d)", k.W, k.Q, text, got, public, e, f, g)
	}
	if long, _ := ots.Long(k.W); len(signature) != long {
		t.Errorf("width %d: %d bytes, not %d", k.W, len(signature), long)
	}
}

func TestWhatIsSignedIsVerified(t *testing.T) {
	for _, w := range widths {
		for _, k := range someKeys(w) {
			for _, text := range [][]byte{nil, {}, []byte("short"), bytes.Repeat([]byte("long"), 1000)} {
				checkVerifies(t, k, text)
			}
		}
	}
}

func TestChainsCanBeContinued(t *testing.T) {
	for _, w := range widths {
		k := ordinary(w)
		last := forms[w].greatest
		x := plainHash("a start")
		for _, i := range []int{0, forms[w].many() - 1} {
			for _, a := range []int{0, 1, last / 2, last} {
				whole, _ := ots.Chain(k, i, a, last, x)
				for b := a; b <= last; b += 1 + last/40 {
					part, e := ots.Chain(k, i, a, b, x)
					got, f := ots.Chain(k, i, b, last, part)
					if got != whole || got == (api.Hash{}) || e != api.OK || f != api.OK {
						t.Errorf("width %d, chain %d from %d by %d: %x, not %x (%d, %d)", w, i, a, b, got, whole, e, f)
					}
				}
			}
		}
	}
}

func FuzzVerify(f *testing.F) {
	f.Add([]byte("name"), uint32(7), []byte("seed"), 2, []byte("text"))
	f.Fuzz(func(t *testing.T, name []byte, q uint32, seed []byte, at int, text []byte) {
		k := ots.Key{Q: q, W: widths[uint(at)%4]}
		copy(k.I[:], name)
		copy(k.Seed[:], seed)
		checkVerifies(t, k, text)
	})
}

func FuzzCandidate(f *testing.F) {
	for _, w := range widths {
		f.Add(uint32(1), []byte("text"), []byte(plainSign(ordinary(w), "text")))
	}
	f.Add(uint32(0), []byte(nil), []byte{0, 0, 0})
	f.Fuzz(func(t *testing.T, q uint32, text, signature []byte) {
		var want api.Hash
		expected := api.ErrShort
		if len(signature) >= 4 {
			expected = api.ErrForm
		}
		for _, w := range widths {
			if len(signature) == forms[w].long && binary.BigEndian.Uint32(signature) == forms[w].kind {
				want, expected = plainCandidate([16]byte{}, q, string(text), string(signature), w), api.OK
			}
		}
		if got, e := ots.Candidate([16]byte{}, q, text, signature); got != want || e != expected {
			t.Errorf("Candidate(%q) of %.20x (%d bytes): %x, %d, not %x, %d", text, signature, len(signature), got, e, want, expected)
		}
	})
}

func BenchmarkPublic(b *testing.B) {
	for _, w := range widths {
		b.Run(strconv.Itoa(w), func(b *testing.B) {
			for b.Loop() {
				ots.Public(ordinary(w))
			}
		})
	}
}
