package sha_test

import (
	"bytes"
	"crypto/sha256"
	"encoding/hex"
	"math"
	"math/big"
	"math/rand/v2"
	"slices"
	"strings"
	"testing"

	"consistory/api"
	"consistory/sha"
)

// edges are numbers of bytes around the ends of blocks, and of what padding has room for in a block.
var edges = []int{0, 1, 54, 55, 56, 57, 62, 63, 64, 65, 118, 119, 120, 121, 127, 128, 129, 183, 184, 191, 192, 193, 1000}

// firstState is the initial state.
var firstState = [8]uint32{0x6a09e667, 0xbb67ae85, 0x3c6ef372, 0xa54ff53a, 0x510e527f, 0x9b05688c, 0x1f83d9ab, 0x5be0cd19}

// some are n bytes of all values, without a period that fits into blocks.
func some(n int) []byte {
	b := make([]byte, n)
	for i := range b {
		b[i] = byte(i*i + 7*i + i/251 + 3)
	}
	return b
}

// blocks are blocks of equal and of mixed bytes, and of a single bit each.
func blocks() [][]byte {
	l := [][]byte{make([]byte, 64), bytes.Repeat([]byte{0xff}, 64), bytes.Repeat([]byte{0x80}, 64), some(64), some(640)[576:]}
	for i := range 64 {
		b := make([]byte, 64)
		b[i] = 1 << (i % 8)
		l = append(l, b)
	}
	return l
}

// states are the initial one, and others that no bytes need lead to.
func states() [][8]uint32 {
	high := [8]uint32{}
	for i := range high {
		high[i] = math.MaxUint32
	}
	l := [][8]uint32{firstState, {}, high, {1, 2, 3, 4, 5, 6, 7, 8}, {0x80000000, 0, 0x7fffffff, 1, 0xfffffffe, 0xdeadbeef, 0, 0x01020304}}
	for i := range 8 {
		one := [8]uint32{}
		one[i] = 1 << (4 * i)
		l = append(l, one)
	}
	return l
}

// turned moves the bits of a word k positions to the right, as the chapter words it, in numbers.
func turned(x uint32, k int) uint32 {
	low := uint64(x) % (1 << k)
	return uint32(uint64(x)/(1<<k) + low<<(32-k))
}

// cubeRoot is the first 32 bits of the fractional part of the cube root of n.
func cubeRoot(n int) uint32 {
	// The greatest r with r^3 <= n * 2^96 is the cube root of n, with 32 bits of its fraction.
	target := new(big.Int).Lsh(big.NewInt(int64(n)), 96)
	r := new(big.Int)
	for bit := 40; bit >= 0; bit-- {
		more := new(big.Int).SetBit(r, bit, 1)
		if new(big.Int).Exp(more, big.NewInt(3), nil).Cmp(target) <= 0 {
			r = more
		}
	}
	return uint32(r.Uint64())
}

// plainConstants are the round constants by their definition.
func plainConstants() [64]uint32 {
	var k [64]uint32
	for i, n := 0, 2; i < 64; n++ {
		if big.NewInt(int64(n)).ProbablyPrime(10) {
			k[i] = cubeRoot(n)
			i++
		}
	}
	return k
}

// plainSchedule is the message schedule as the chapter words it.
func plainSchedule(block []byte) [64]uint32 {
	var w [64]uint32
	for i, c := range block {
		w[i/4] = w[i/4]*256 + uint32(c)
	}
	for t := 16; t < 64; t++ {
		x, y := w[t-15], w[t-2]
		s0 := turned(x, 7) ^ turned(x, 18) ^ x/8
		s1 := turned(y, 17) ^ turned(y, 19) ^ y/1024
		w[t] = s1 + w[t-7] + s0 + w[t-16]
	}
	return w
}

// plainBlock is the state after a block as the chapter words it, bit by bit where it speaks of bits.
func plainBlock(state [8]uint32, block []byte) [8]uint32 {
	k, w, v := plainConstants(), plainSchedule(block), state
	for t := range 64 {
		a, e := v[0], v[4]
		var choose, majority uint32
		for bit := range 32 {
			at := func(x uint32) uint32 { return x >> bit & 1 }
			choose |= at(v[6-at(e)]) << bit
			majority |= (at(v[0]) + at(v[1]) + at(v[2])) / 2 << bit
		}
		t1 := v[7] + (turned(e, 6) ^ turned(e, 11) ^ turned(e, 25)) + choose + k[t] + w[t]
		t2 := (turned(a, 2) ^ turned(a, 13) ^ turned(a, 22)) + majority
		v = [8]uint32{t1 + t2, v[0], v[1], v[2], v[3] + t1, v[4], v[5], v[6]}
	}
	for i := range v {
		v[i] += state[i]
	}
	return v
}

// plainPad adds zero bytes one by one until the length is right.
func plainPad(n int) []byte {
	n = max(n, 0)
	b := []byte{128}
	for (n%64+len(b)+8)%64 != 0 {
		b = append(b, 0)
	}
	count := new(big.Int).Mul(big.NewInt(int64(n)), big.NewInt(8))
	count.Mod(count, new(big.Int).Lsh(big.NewInt(1), 64))
	return append(b, count.FillBytes(make([]byte, 8))...)
}

func TestSumOfKnownBytes(t *testing.T) {
	for s, want := range map[string]string{
		"":    "e3b0c44298fc1c149afbf4c8996fb92427ae41e4649b934ca495991b7852b855",
		"abc": "ba7816bf8f01cfea414140de5dae2223b00361a396177a9cb410ff61f20015ad",
		"abcdbcdecdefdefgefghfghighijhijkijkljklmklmnlmnomnopnopq":                                                         "248d6a61d20638b8e5c026930c3e6039a33ce45964ff2167f6ecedd419db06c1",
		"abcdefghbcdefghicdefghijdefghijkefghijklfghijklmghijklmnhijklmnoijklmnopjklmnopqklmnopqrlmnopqrsmnopqrstnopqrstu": "cf5b16a778af8380036ce59e7b0492370b249b11e8f07a51afac45037afee9d1",
		strings.Repeat("a", 1000000): "cdc76e5c9914fb9281a1c7e284d73e67f1809a48a497200e046d39ccc7112cd0",
	} {
		h := sha.Sum([]byte(s))
		if got := hex.EncodeToString(h[:]); got != want {
			t.Errorf("Sum(%.20q) = %s, not %s", s, got, want)
		}
	}
	if sha.Sum(nil) != sha.Sum([]byte{}) {
		t.Error("Sum of nil is not Sum of no bytes")
	}
}

func TestSumOfEachLength(t *testing.T) {
	for n := range 400 {
		b := some(n)
		if got, want := sha.Sum(b), sha256.Sum256(b); got != want {
			t.Errorf("Sum of %d bytes = %x, not %x", n, got, want)
		}
	}
}

func TestSumOfEqualBytes(t *testing.T) {
	for _, n := range edges {
		for _, c := range []byte{0, 0x7f, 0x80, 0xff} {
			b := bytes.Repeat([]byte{c}, n)
			if got, want := sha.Sum(b), sha256.Sum256(b); got != want {
				t.Errorf("Sum of %d bytes %d = %x, not %x", n, c, got, want)
			}
		}
	}
}

func TestRound(t *testing.T) {
	for i, want := range plainConstants() {
		if got, e := sha.Round(i); got != want || e != api.OK {
			t.Errorf("Round(%d) = %x, %d, not %x", i, got, e, want)
		}
	}
	for i, want := range map[int]uint32{0: 0x428a2f98, 1: 0x71374491, 62: 0xbef9a3f7, 63: 0xc67178f2} {
		if got, e := sha.Round(i); got != want || e != api.OK {
			t.Errorf("Round(%d) = %x, %d, not %x", i, got, e, want)
		}
	}
}

func TestRoundElsewhere(t *testing.T) {
	for _, i := range []int{-1, -2, -63, -64, 64, 65, 127, 128, 1 << 32, math.MinInt, math.MaxInt} {
		if got, e := sha.Round(i); got != 0 || e != api.ErrArg {
			t.Errorf("Round(%d) = %x, %d", i, got, e)
		}
	}
}

func TestSchedule(t *testing.T) {
	for _, b := range blocks() {
		if got, e := sha.Schedule(b); got != plainSchedule(b) || e != api.OK {
			t.Errorf("Schedule(%x) = %x, %d", b, got, e)
		}
	}
	w, _ := sha.Schedule(append([]byte("abc"), sha.Pad(3)...))
	for i, want := range map[int]uint32{0: 0x61626380, 1: 0, 15: 0x18, 16: 0x61626380, 17: 0x000f0000, 18: 0x7da86405, 19: 0x600003c6, 63: 0x12b1edeb} {
		if w[i] != want {
			t.Errorf("word %d of the schedule of abc is %x, not %x", i, w[i], want)
		}
	}
}

func TestBlock(t *testing.T) {
	for _, state := range states() {
		for _, b := range blocks() {
			if got, e := sha.Block(state, b); got != plainBlock(state, b) || e != api.OK {
				t.Errorf("Block(%x, %x) = %x, %d", state, b, got, e)
			}
		}
	}
	want := [8]uint32{0xba7816bf, 0x8f01cfea, 0x414140de, 0x5dae2223, 0xb00361a3, 0x96177a9c, 0xb410ff61, 0xf20015ad}
	if got, e := sha.Block(firstState, append([]byte("abc"), sha.Pad(3)...)); got != want || e != api.OK {
		t.Errorf("Block of abc = %x, %d", got, e)
	}
}

// The hash is the state after all blocks of the bytes and of their padding.
func TestBlocksOfPaddedBytes(t *testing.T) {
	for _, n := range edges {
		whole := append(some(n), sha.Pad(n)...)
		state := firstState
		for part := range slices.Chunk(whole, 64) {
			var e api.Errno
			if state, e = sha.Block(state, part); e != api.OK {
				t.Fatalf("%d bytes padded do not consist of blocks: %d", n, e)
			}
		}
		var got api.Hash
		for i := range got {
			got[i] = byte(state[i/4] >> (24 - i%4*8))
		}
		if want := sha256.Sum256(some(n)); got != want {
			t.Errorf("blocks of %d bytes: %x, not %x", n, got, want)
		}
	}
}

func TestBlocksOfOtherLengths(t *testing.T) {
	for _, n := range []int{0, 1, 16, 32, 63, 65, 127, 128, 1000} {
		for _, state := range states() {
			// A block's worth of capacity does not make up for missing bytes.
			if got, e := sha.Block(state, some(2000)[:n]); got != [8]uint32{} || e != api.ErrArg {
				t.Errorf("Block of %d bytes = %x, %d", n, got, e)
			}
		}
		if got, e := sha.Schedule(some(2000)[:n]); got != [64]uint32{} || e != api.ErrArg {
			t.Errorf("Schedule of %d bytes = %x, %d", n, got, e)
		}
	}
	if got, e := sha.Block(firstState, nil); got != [8]uint32{} || e != api.ErrArg {
		t.Errorf("Block of nil = %x, %d", got, e)
	}
	if got, e := sha.Schedule(nil); got != [64]uint32{} || e != api.ErrArg {
		t.Errorf("Schedule of nil = %x, %d", got, e)
	}
}

func TestPad(t *testing.T) {
	for n, want := range map[int]string{
		0:   "\x80" + strings.Repeat("\x00", 63),
		3:   "\x80" + strings.Repeat("\x00", 59) + "\x18",
		55:  "\x80" + strings.Repeat("\x00", 6) + "\x01\xb8",
		56:  "\x80" + strings.Repeat("\x00", 69) + "\x01\xc0",
		63:  "\x80" + strings.Repeat("\x00", 62) + "\x01\xf8",
		64:  "\x80" + strings.Repeat("\x00", 61) + "\x02\x00",
		119: "\x80" + strings.Repeat("\x00", 6) + "\x03\xb8",
		120: "\x80" + strings.Repeat("\x00", 69) + "\x03\xc0",
	} {
		if got := sha.Pad(n); string(got) != want {
			t.Errorf("Pad(%d) = %x, not %x", n, got, want)
		}
	}
	large := []int{1<<29 - 1, 1 << 29, 1<<31 - 1, 1 << 31, 0x0102030405060708, 1<<61 - 1, 1 << 61, math.MaxInt - 8, math.MaxInt}
	for n := range 300 {
		large = append(large, n)
	}
	for _, n := range large {
		if got := sha.Pad(n); !bytes.Equal(got, plainPad(n)) {
			t.Errorf("Pad(%d) = %x, not %x", n, got, plainPad(n))
		}
	}
}

func TestPadOfNegativeNumbers(t *testing.T) {
	for _, n := range []int{-1, -8, -9, -55, -56, -64, -1000, math.MinInt + 1, math.MinInt} {
		if got := sha.Pad(n); !bytes.Equal(got, plainPad(0)) {
			t.Errorf("Pad(%d) = %x", n, got)
		}
	}
}

func TestPadIsNewMemory(t *testing.T) {
	for _, n := range edges {
		first := sha.Pad(n)
		for i := range first[:cap(first)] {
			first[:cap(first)][i] ^= 0xff
		}
		if got := sha.Pad(n); !bytes.Equal(got, plainPad(n)) {
			t.Errorf("Pad(%d) changes with an earlier one: %x", n, got)
		}
	}
}

// holds tells whether the object has exactly the bytes b, also when it is asked again.
func holds(s *sha.Sums, b []byte) bool {
	want := sha256.Sum256(b)
	return s.Sum() == want && s.Long() == len(b) && s.Sum() == want && s.Long() == len(b)
}

func TestObjectWithoutBytes(t *testing.T) {
	s := sha.New()
	if s == nil || !holds(s, nil) {
		t.Fatal("New has bytes, or is none")
	}
	s.Write(nil)
	s.Write([]byte{})
	if !holds(s, nil) {
		t.Error("writing nothing writes something")
	}
}

func TestObjectAtEdges(t *testing.T) {
	for _, n := range edges {
		s := sha.New()
		s.Write(some(n))
		if !holds(s, some(n)) {
			t.Errorf("%d bytes at once: %x, %d", n, s.Sum(), s.Long())
		}
		// Asking must not end the object: what is written then still counts.
		s.Write([]byte("more"))
		if !holds(s, append(some(n), "more"...)) {
			t.Errorf("%d bytes and then more: %x, %d", n, s.Sum(), s.Long())
		}
	}
}

func TestObjectsAreApart(t *testing.T) {
	a, b := sha.New(), sha.New()
	a.Write(some(70))
	if !holds(b, nil) {
		t.Error("an object has the bytes of another one")
	}
	b.Write([]byte("b"))
	a.Write([]byte("a"))
	if !holds(b, []byte("b")) || !holds(a, append(some(70), 'a')) || !holds(sha.New(), nil) {
		t.Error("objects disturb each other")
	}
}

func TestNilObject(t *testing.T) {
	var s *sha.Sums
	for _, b := range [][]byte{nil, []byte("a"), some(64), some(200)} {
		s.Write(b)
		if !holds(s, nil) {
			t.Errorf("nil after %d bytes: %x, %d", len(b), s.Sum(), s.Long())
		}
	}
}

func TestBytesHandedInStay(t *testing.T) {
	s := sha.New()
	for name, call := range map[string]func(b []byte){
		"Sum":      func(b []byte) { sha.Sum(b) },
		"Schedule": func(b []byte) { sha.Schedule(b) },
		"Block":    func(b []byte) { sha.Block(firstState, b) },
		"Write":    func(b []byte) { sha.New().Write(b) },
		"Sums":     func(b []byte) { s.Write(b); s.Sum(); s.Write(b); s.Sum() },
	} {
		for _, n := range edges {
			whole := some(n + 300)
			call(whole[100 : 100+n])
			if !bytes.Equal(whole, some(n+300)) {
				t.Errorf("%s changed its %d bytes, or those around them", name, n)
			}
		}
	}
}

func TestStateHandedInStays(t *testing.T) {
	state := firstState
	sha.Block(state, some(64))
	if state != firstState {
		t.Error("Block changed the state that it was given")
	}
}

// What an object has taken is its own: the caller may use his bytes again.
func TestBytesTakenStay(t *testing.T) {
	for _, before := range []int{0, 1, 30, 63, 64} {
		for _, n := range edges {
			s := sha.New()
			s.Write(some(before))
			whole := some(n + 300)
			s.Write(whole[100 : 100+n])
			want := append(some(before), some(n + 300)[100:100+n]...)
			for i := range whole {
				whole[i] ^= 0xff
			}
			if !holds(s, want) {
				t.Errorf("%d bytes after %d: the hash changes with the caller's bytes", n, before)
			}
			s.Write(whole[:77])
			want = append(want, whole[:77]...)
			clear(whole)
			if !holds(s, want) {
				t.Errorf("%d bytes after %d: what is written later changes with the caller's bytes", n, before)
			}
		}
	}
}

// A call's answer hangs on nothing that other calls left behind.
func TestCallsLeaveNothingBehind(t *testing.T) {
	for range 2 {
		if got, want := sha.Sum(some(130)), sha256.Sum256(some(130)); got != want {
			t.Errorf("Sum = %x, not %x", got, want)
		}
		if w, _ := sha.Schedule(some(64)); w != plainSchedule(some(64)) {
			t.Errorf("Schedule = %x", w)
		}
		if v, _ := sha.Block(firstState, some(64)); v != plainBlock(firstState, some(64)) {
			t.Errorf("Block = %x", v)
		}
		w, _ := sha.Schedule(some(64))
		clear(w[:])
		sha.Block([8]uint32{}, make([]byte, 64))
		sha.New().Write(some(99))
	}
}

// checkPieces writes b cut into pieces at the places that sizes tell, and compares at each step.
func checkPieces(t *testing.T, b []byte, sizes []int) {
	t.Helper()
	s, done := sha.New(), 0
	for _, n := range append(slices.Clone(sizes), len(b)) {
		n = min(n, len(b)-done)
		s.Write(b[done : done+n])
		done += n
		if s.Sum() != sha.Sum(b[:done]) || !holds(s, b[:done]) {
			t.Fatalf("%d bytes in pieces of %v: %x, %d at byte %d", len(b), sizes, s.Sum(), s.Long(), done)
		}
	}
}

func TestTwoAndThreePieces(t *testing.T) {
	for _, n := range []int{0, 1, 55, 56, 63, 64, 65, 119, 120, 128, 130, 200} {
		for i := range n + 1 {
			checkPieces(t, some(n), []int{i})
			checkPieces(t, some(n), []int{0, i, 0})
			checkPieces(t, some(n), []int{i, 1, 63})
			checkPieces(t, some(n), []int{i, 64})
		}
	}
	for i := range 131 {
		for j := range 131 - i {
			checkPieces(t, some(130), []int{i, j})
		}
	}
}

func TestEqualPieces(t *testing.T) {
	for size := 1; size <= 140; size++ {
		checkPieces(t, some(500), slices.Repeat([]int{size}, 500/size))
	}
}

func TestPiecesOfAnySize(t *testing.T) {
	r := rand.New(rand.NewPCG(2, 64))
	for range 400 {
		sizes := make([]int, r.IntN(20))
		for i := range sizes {
			sizes[i] = []int{0, 1, r.IntN(64), 63, 64, 65, r.IntN(300)}[r.IntN(7)]
		}
		checkPieces(t, some(r.IntN(1500)), sizes)
	}
}

// An object may be asked never, or only at the end: that changes nothing.
func TestPiecesAskedAtTheEnd(t *testing.T) {
	for size := 1; size <= 140; size++ {
		s := sha.New()
		for part := range slices.Chunk(some(1000), size) {
			s.Write(part)
			s.Write(nil)
		}
		if !holds(s, some(1000)) {
			t.Errorf("1000 bytes in pieces of %d: %x, %d", size, s.Sum(), s.Long())
		}
	}
}

func FuzzPieces(f *testing.F) {
	f.Add([]byte("abc"), []byte{1, 0, 1})
	f.Add(some(130), []byte{63, 1, 64})
	f.Fuzz(func(t *testing.T, b, cuts []byte) {
		sizes := make([]int, len(cuts))
		for i, c := range cuts {
			sizes[i] = int(c)
		}
		checkPieces(t, b, sizes)
	})
}

func BenchmarkSum(b *testing.B) {
	for _, n := range []int{55, 1000, 100000} {
		part := some(n)
		b.Run(big.NewInt(int64(n)).String(), func(b *testing.B) {
			b.SetBytes(int64(n))
			for b.Loop() {
				sha.Sum(part)
			}
		})
	}
}
