package crc_test

import (
	"bytes"
	"hash/crc32"
	"math"
	"math/rand/v2"
	"slices"
	"testing"

	"consistory/crc"
)

var castagnoli = crc32.MakeTable(crc32.Castagnoli)

// plainRegister is the register after bytes, as the chapter words it: bit by bit.
func plainRegister(r uint32, b []byte) uint32 {
	for _, c := range b {
		for k := range 8 {
			out := r % 2
			r /= 2
			if out != uint32(c>>k)%2 {
				r ^= 0x82f63b78
			}
		}
	}
	return r
}

func plainSum(b []byte) uint32 {
	return math.MaxUint32 - plainRegister(math.MaxUint32, b)
}

// noise is n pseudorandom bytes, the same ones for the same seed.
func noise(seed uint64, n int) []byte {
	r := rand.New(rand.NewPCG(seed, 15))
	b := make([]byte, n)
	for i := range b {
		b[i] = byte(r.Uint32())
	}
	return b
}

// someBytes are of all kinds: none, equal ones, and pseudorandom ones around numbers of bytes that are powers of two.
func someBytes() [][]byte {
	l := [][]byte{nil, {}, {0}, {0xff}, {167}, []byte("123456789"), make([]byte, 40), bytes.Repeat([]byte{0xff}, 40)}
	for _, n := range []int{2, 3, 4, 5, 7, 8, 9, 31, 32, 33, 127, 128, 255, 256, 257} {
		l = append(l, noise(uint64(n), n))
	}
	return l
}

// someSums are checksums that no bytes of these tests need have.
func someSums() []uint32 {
	l := []uint32{0, 1, 2, 0x80000000, 0x7fffffff, 0xfffffffe, 0xffffffff, 0x82f63b78, 0xe3069283}
	r := rand.New(rand.NewPCG(15, 1))
	for range 100 {
		l = append(l, r.Uint32())
	}
	return l
}

// within is b with bytes ahead of it, and spare capacity behind it, in one piece of memory.
func within(b []byte) (whole, part []byte) {
	whole = slices.Concat([]byte("<<<"), b, bytes.Repeat([]byte{'>'}, len(b)+40))
	return whole, whole[3 : 3+len(b)]
}

func TestSumOfNothing(t *testing.T) {
	for _, b := range [][]byte{nil, {}, make([]byte, 0, 9), []byte("abc")[3:], []byte("abc")[:0]} {
		if s := crc.Sum(b); s != 0 {
			t.Errorf("Sum of no bytes = %x", s)
		}
	}
}

func TestSumOfEachByteAndOfEachTwo(t *testing.T) {
	for i := range 256 {
		one := []byte{byte(i)}
		if s := crc.Sum(one); s != plainSum(one) {
			t.Errorf("Sum(%x) = %x, not %x", one, s, plainSum(one))
		}
		for j := range 256 {
			two := []byte{byte(i), byte(j)}
			if s := crc.Sum(two); s != plainSum(two) {
				t.Errorf("Sum(%x) = %x, not %x", two, s, plainSum(two))
			}
		}
	}
}

func TestSumOfKnownBytes(t *testing.T) {
	up, down := make([]byte, 32), make([]byte, 32)
	for i := range 32 {
		up[i], down[31-i] = byte(i), byte(i)
	}
	for _, c := range []struct {
		b    []byte
		want uint32
	}{
		{[]byte("123456789"), 0xe3069283},
		{[]byte("a"), 0xc1d04330},
		{make([]byte, 32), 0x8a9136aa},
		{bytes.Repeat([]byte{0xff}, 32), 0x62a8ab43},
		{up, 0x46dd794e},
		{down, 0x113fdb5c},
	} {
		if s := crc.Sum(c.b); s != c.want {
			t.Errorf("Sum(%q) = %x, not %x", c.b, s, c.want)
		}
	}
}

func TestSumAgainstTheLibrary(t *testing.T) {
	for n := range 2000 {
		b := noise(uint64(n), n)
		if s, want := crc.Sum(b), crc32.Checksum(b, castagnoli); s != want {
			t.Errorf("Sum of %d bytes = %x, not %x", n, s, want)
		}
	}
	for _, n := range []int{4095, 4096, 65535, 65536, 100000, 1 << 20} {
		b := noise(uint64(n), n)
		if s, want := crc.Sum(b), crc32.Checksum(b, castagnoli); s != want {
			t.Errorf("Sum of %d bytes = %x, not %x", n, s, want)
		}
	}
}

func TestSumLooksAtNothingBehindTheEnd(t *testing.T) {
	b := noise(7, 50)
	for i := range b {
		want := crc.Sum(slices.Clone(b[:i]))
		if s := crc.Sum(b[:i]); s != want {
			t.Errorf("Sum of %d bytes ahead of others = %x, not %x", i, s, want)
		}
	}
}

func TestMoreOfNothing(t *testing.T) {
	for _, b := range someBytes() {
		if s, want := crc.More(crc.Sum(nil), b), plainSum(b); s != want {
			t.Errorf("More(Sum(nil), %x) = %x, not %x", b, s, want)
		}
	}
	for _, sum := range someSums() {
		if crc.More(sum, nil) != sum || crc.More(sum, []byte{}) != sum {
			t.Errorf("More(%x, nil) = %x", sum, crc.More(sum, nil))
		}
	}
}

func TestMoreOfAnySum(t *testing.T) {
	for _, sum := range someSums() {
		for _, b := range someBytes() {
			s := crc.More(sum, b)
			if want := math.MaxUint32 - plainRegister(math.MaxUint32-sum, b); s != want {
				t.Errorf("More(%x, %x) = %x, not %x", sum, b, s, want)
			}
			if want := crc32.Update(sum, castagnoli, b); s != want {
				t.Errorf("More(%x, %x) = %x, but %x by the library", sum, b, s, want)
			}
		}
	}
}

func TestMoreOfTwoPieces(t *testing.T) {
	for _, b := range append(someBytes(), noise(1, 2000)) {
		want := plainSum(b)
		for i := range len(b) + 1 {
			if s := crc.More(crc.Sum(b[:i]), b[i:]); s != want {
				t.Errorf("%d bytes, cut at %d: %x, not %x", len(b), i, s, want)
			}
		}
	}
}

func TestMoreOfThreePieces(t *testing.T) {
	for _, b := range someBytes() {
		want := plainSum(b)
		for j := range min(len(b), 60) + 1 {
			for i := range j + 1 {
				if s := crc.More(crc.More(crc.Sum(b[:i]), b[i:j]), b[j:]); s != want {
					t.Errorf("%d bytes, cut at %d and %d: %x, not %x", len(b), i, j, s, want)
				}
			}
		}
	}
}

func TestMoreByteByByte(t *testing.T) {
	b := noise(2, 3000)
	sum := crc.Sum(nil)
	for i := range b {
		sum = crc.More(sum, b[i:i+1])
		if want := crc32.Checksum(b[:i+1], castagnoli); sum != want {
			t.Fatalf("%d bytes: %x, not %x", i+1, sum, want)
		}
	}
}

func TestSumsChangeNothing(t *testing.T) {
	for _, b := range someBytes() {
		whole, part := within(b)
		before := slices.Clone(whole)
		crc.Sum(part)
		crc.More(crc.Sum(part), part)
		if !bytes.Equal(whole, before) {
			t.Errorf("Sum or More of %x changed what it was given: %x", b, whole)
		}
	}
}

func FuzzSum(f *testing.F) {
	f.Add([]byte("123456789"), uint(4), uint32(0))
	f.Add([]byte{}, uint(0), uint32(math.MaxUint32))
	f.Fuzz(func(t *testing.T, b []byte, cut uint, sum uint32) {
		want := plainSum(b)
		if s := crc.Sum(b); s != want {
			t.Errorf("Sum(%x) = %x, not %x", b, s, want)
		}
		i := cut % uint(len(b)+1)
		if s := crc.More(crc.Sum(b[:i]), b[i:]); s != want {
			t.Errorf("%x, cut at %d: %x, not %x", b, i, s, want)
		}
		if s := crc.More(sum, b); s != crc32.Update(sum, castagnoli, b) {
			t.Errorf("More(%x, %x) = %x", sum, b, s)
		}
	})
}
