package digits_test

import (
	"math"
	"math/rand/v2"
	"slices"
	"strconv"
	"strings"
	"testing"

	"consistory/api"
	"consistory/digits"
)

var widths = []int{1, 2, 4, 8}

// noWidths are numbers near the widths, multiples and negatives of them, and numbers whose low bits are a width.
var noWidths = []int{
	0, 3, 5, 6, 7, 9, 10, 12, 15, 16, 24, 31, 32, 63, 64, 128, 255, 256, 257, 264, 1 << 32, 1<<32 + 4,
	-1, -2, -3, -4, -5, -7, -8, -9, -16, -64, -255, math.MinInt, math.MinInt + 1, math.MinInt + 8, math.MaxInt, math.MaxInt - 1,
}

// plainDigits writes the bits of b as text, and reads them in groups of w.
func plainDigits(b []byte, w int) []int {
	var text strings.Builder
	for _, c := range b {
		s := strconv.FormatInt(int64(c), 2)
		text.WriteString(strings.Repeat("0", 8-len(s)) + s)
	}
	var l []int
	for group := range slices.Chunk([]byte(text.String()), w) {
		n, _ := strconv.ParseInt(string(group), 2, 64)
		l = append(l, int(n))
	}
	return l
}

// form is what a width determines.
type form struct{ own, check, shift, greatest int }

// forms are those of RFC 8554 (p less u, u, ls), and the greatest digits.
var forms = map[int]form{1: {256, 9, 7, 1}, 2: {128, 5, 6, 3}, 4: {64, 3, 4, 15}, 8: {32, 2, 0, 255}}

// plainNumber is the checksum as the chapter words it.
func plainNumber(h api.Hash, w int) int {
	sum := 0
	for _, d := range plainDigits(h[:], w) {
		sum += forms[w].greatest - d
	}
	for range forms[w].shift {
		sum *= 2
	}
	return sum
}

// plainAll is all digits as the chapter words them.
func plainAll(h api.Hash, w int) []int {
	n := plainNumber(h, w)
	sum := plainDigits([]byte{byte(n / 256), byte(n % 256)}, w)
	return append(plainDigits(h[:], w), sum[:forms[w].check]...)
}

// filled is the hash of only bytes c.
func filled(c byte) api.Hash {
	var h api.Hash
	for i := range h {
		h[i] = c
	}
	return h
}

// someHashes are hashes of equal, of rising and of mixed bytes, of a single bit, and of all bits but one.
func someHashes() []api.Hash {
	l := []api.Hash{filled(0), filled(255), filled(1), filled(0x80), filled(0x55), filled(0xaa), filled(0x0f), filled(0xf0)}
	var rising api.Hash
	for i := range rising {
		rising[i] = byte(i * 8)
	}
	l = append(l, rising)
	for i := range 256 {
		one, rest := filled(0), filled(255)
		one[i/8] ^= 1 << (i % 8)
		rest[i/8] ^= 1 << (i % 8)
		l = append(l, one, rest)
	}
	r := rand.New(rand.NewPCG(3, 1))
	for range 100 {
		l = append(l, mixed(r))
	}
	return l
}

func mixed(r *rand.Rand) api.Hash {
	var h api.Hash
	for i := range h {
		h[i] = byte(r.Uint32())
	}
	return h
}

func TestDigitOfKnownBytes(t *testing.T) {
	for _, c := range []struct {
		b          string
		i, w, want int
	}{
		// The examples of RFC 8554, section 3.1.3.
		{"\x12\x34", 7, 1, 0},
		{"\x12\x34", 0, 4, 1},
		{"\x12\x34", 3, 1, 1},
		{"\x12\x34", 6, 1, 1},
		{"\x12\x34", 10, 1, 1},
		{"\x12\x34", 15, 1, 0},
		{"\x12\x34", 1, 4, 2},
		{"\x12\x34", 2, 4, 3},
		{"\x12\x34", 3, 4, 4},
		{"\x12\x34", 0, 8, 0x12},
		{"\x12\x34", 1, 8, 0x34},
		{"\x1b\xe4", 0, 2, 0},
		{"\x1b\xe4", 1, 2, 1},
		{"\x1b\xe4", 2, 2, 2},
		{"\x1b\xe4", 3, 2, 3},
		{"\x1b\xe4", 4, 2, 3},
		{"\x1b\xe4", 7, 2, 0},
		{"\x80", 0, 1, 1},
		{"\x80", 7, 1, 0},
		{"\x01", 7, 1, 1},
		{"\xff\xff\xfe", 2, 8, 254},
	} {
		if got, e := digits.Digit([]byte(c.b), c.i, c.w); got != c.want || e != api.OK {
			t.Errorf("Digit(%x, %d, %d) = %d, %d, not %d", c.b, c.i, c.w, got, e, c.want)
		}
	}
}

func TestEachDigit(t *testing.T) {
	every := make([]byte, 256)
	for i := range every {
		every[i] = byte(i)
	}
	mix := filled(0x6c)
	mix[0], mix[31] = 0xc5, 0x3a
	for _, b := range [][]byte{every, every[7:8], every[200:203], mix[:], mix[:31], {0}, {255}, {0, 0}, {255, 255}} {
		for _, w := range widths {
			for i, want := range plainDigits(b, w) {
				if got, e := digits.Digit(b, i, w); got != want || e != api.OK {
					t.Errorf("Digit(%x, %d, %d) = %d, %d, not %d", b, i, w, got, e, want)
				}
			}
		}
	}
}

func TestDigitElsewhere(t *testing.T) {
	spare := []byte{1, 2, 3, 255, 255, 255}
	for _, b := range [][]byte{nil, {}, spare[:0], spare[:1], spare[:3], make([]byte, 32), make([]byte, 255)} {
		for _, w := range widths {
			many := len(b) * 8 / w
			for _, i := range []int{-1, -2, -8, -many, many, many + 1, many + 8, 8*len(b) + 1, 1 << 32, -1 << 32, 1 << 60, 1 << 61, math.MinInt, math.MinInt + 1, math.MaxInt - 1, math.MaxInt} {
				if i == 0 && many > 0 {
					continue
				}
				if got, e := digits.Digit(b, i, w); got != 0 || e != api.ErrArg {
					t.Errorf("Digit(%x, %d, %d) = %d, %d", b, i, w, got, e)
				}
			}
		}
	}
}

func TestDigitOfNoWidth(t *testing.T) {
	for _, b := range [][]byte{nil, {}, {255}, make([]byte, 32), []byte("ordinary bytes")} {
		for _, w := range noWidths {
			for _, i := range []int{0, 1, 5, 31, -1, math.MinInt, math.MaxInt} {
				if got, e := digits.Digit(b, i, w); got != 0 || e != api.ErrArg {
					t.Errorf("Digit(%x, %d, %d) = %d, %d", b, i, w, got, e)
				}
			}
		}
	}
}

func TestOwnCheckAndShift(t *testing.T) {
	for _, w := range widths {
		want := forms[w]
		if got, e := digits.Own(w); got != want.own || e != api.OK {
			t.Errorf("Own(%d) = %d, %d", w, got, e)
		}
		if got, e := digits.Check(w); got != want.check || e != api.OK {
			t.Errorf("Check(%d) = %d, %d", w, got, e)
		}
		if got, e := digits.Shift(w); got != want.shift || e != api.OK {
			t.Errorf("Shift(%d) = %d, %d", w, got, e)
		}
	}
}

// As few check digits as can represent the greatest sum, and the bits that they leave of two bytes.
func TestCheckDigitsAreAsFewAsCanBe(t *testing.T) {
	for _, w := range widths {
		own, _ := digits.Own(w)
		check, _ := digits.Check(w)
		shift, _ := digits.Shift(w)
		most := own * (1<<w - 1)
		if 1<<(check*w) <= most || 1<<((check-1)*w) > most {
			t.Errorf("width %d: %d check digits for %d", w, check, most)
		}
		if shift != 16-check*w {
			t.Errorf("width %d: Shift is %d beside %d check digits", w, shift, check)
		}
	}
}

func TestNoWidth(t *testing.T) {
	for _, w := range noWidths {
		for name, call := range map[string]func(w int) (int, api.Errno){
			"Own": digits.Own, "Check": digits.Check, "Shift": digits.Shift,
		} {
			if got, e := call(w); got != 0 || e != api.ErrArg {
				t.Errorf("%s(%d) = %d, %d", name, w, got, e)
			}
		}
		for _, h := range []api.Hash{filled(0), filled(255), filled(0x6c)} {
			if got, e := digits.Number(h, w); got != 0 || e != api.ErrArg {
				t.Errorf("Number(%x, %d) = %d, %d", h, w, got, e)
			}
			if got, e := digits.All(h, w); len(got) != 0 || e != api.ErrArg {
				t.Errorf("All(%x, %d) = %d, %d", h, w, got, e)
			}
		}
	}
}

func TestNumberOfKnownHashes(t *testing.T) {
	for w, want := range map[int]int{1: 256 * 128, 2: 384 * 64, 4: 960 * 16, 8: 8160} {
		if got, e := digits.Number(filled(0), w); got != want || e != api.OK {
			t.Errorf("Number of zero bytes, width %d: %d, %d, not %d", w, got, e, want)
		}
		if got, e := digits.Number(filled(255), w); got != 0 || e != api.OK {
			t.Errorf("Number of bytes 255, width %d: %d, %d", w, got, e)
		}
	}
	h := filled(255)
	h[0], h[31] = 0x1b, 0xfe
	for w, want := range map[int]int{1: 5 * 128, 2: 7 * 64, 4: 19 * 16, 8: 229} {
		if got, e := digits.Number(h, w); got != want || e != api.OK {
			t.Errorf("Number(%x, %d) = %d, %d, not %d", h, w, got, e, want)
		}
	}
}

func TestAllOfKnownHashes(t *testing.T) {
	for w, ends := range map[int][2][]int{
		1: {{1, 0, 0, 0, 0, 0, 0, 0, 0}, {0, 0, 0, 0, 0, 0, 0, 0, 0}},
		2: {{1, 2, 0, 0, 0}, {0, 0, 0, 0, 0}},
		4: {{3, 12, 0}, {0, 0, 0}},
		8: {{31, 224}, {0, 0}},
	} {
		for i, c := range []byte{0, 255} {
			want := append(plainDigits(slices.Repeat([]byte{c}, 32), w), ends[i]...)
			if got, e := digits.All(filled(c), w); !slices.Equal(got, want) || e != api.OK {
				t.Errorf("All of bytes %d, width %d: %d, %d", c, w, got, e)
			}
		}
	}
}

func TestNumberAndAll(t *testing.T) {
	for _, h := range someHashes() {
		for _, w := range widths {
			if got, e := digits.Number(h, w); got != plainNumber(h, w) || e != api.OK {
				t.Errorf("Number(%x, %d) = %d, %d, not %d", h, w, got, e, plainNumber(h, w))
			}
			if got, e := digits.All(h, w); !slices.Equal(got, plainAll(h, w)) || e != api.OK {
				t.Errorf("All(%x, %d) = %d, %d", h, w, got, e)
			}
		}
	}
}

// All digits are those that the other functions tell one by one.
func TestAllIsOwnThenCheck(t *testing.T) {
	for _, h := range someHashes() {
		for _, w := range widths {
			own, _ := digits.Own(w)
			check, _ := digits.Check(w)
			n, _ := digits.Number(h, w)
			all, e := digits.All(h, w)
			if len(all) != own+check || e != api.OK {
				t.Fatalf("All(%x, %d) has %d digits, %d", h, w, len(all), e)
			}
			if n < 0 || n >= 1<<16 {
				t.Errorf("Number(%x, %d) = %d is not one of two bytes", h, w, n)
			}
			sum := []byte{byte(n >> 8), byte(n)}
			for i, got := range all {
				want, e := digits.Digit(h[:], i, w)
				if i >= own {
					want, e = digits.Digit(sum, i-own, w)
				}
				if got != want || e != api.OK {
					t.Errorf("digit %d of %x, width %d: %d, not %d, %d", i, h, w, got, want, e)
				}
			}
			// What the check digits leave of the two bytes is empty: they represent the whole checksum.
			for i := check; i < 16/w; i++ {
				if d, _ := digits.Digit(sum, i, w); d != 0 {
					t.Errorf("Number(%x, %d) = %d goes beyond the check digits", h, w, n)
				}
			}
		}
	}
}

func TestNothingHandedInIsChanged(t *testing.T) {
	whole := []byte("<<<some bytes>>>>>>")
	before := string(whole)
	part := whole[3:13]
	for _, w := range append(slices.Clone(widths), noWidths...) {
		for i := -1; i <= 81; i++ {
			digits.Digit(part, i, w)
		}
		if string(whole) != before {
			t.Fatalf("Digit of width %d changed what it was given: %q", w, whole)
		}
	}
}

func TestListsAreTheCallers(t *testing.T) {
	for _, h := range []api.Hash{filled(0), filled(255), filled(0x6c)} {
		for _, w := range widths {
			first, _ := digits.All(h, w)
			second, _ := digits.All(h, w)
			for i := range first[:cap(first)] {
				first[:cap(first)][i] = -7
			}
			_ = append(first, -8)
			third, _ := digits.All(h, w)
			if !slices.Equal(second, plainAll(h, w)) || !slices.Equal(third, plainAll(h, w)) {
				t.Errorf("All(%x, %d) changes with an earlier answer", h, w)
			}
			if n, _ := digits.Number(h, w); n != plainNumber(h, w) {
				t.Errorf("Number(%x, %d) changes with an answer of All", h, w)
			}
		}
	}
}

// hasGreater tells whether a digit of a is greater than that of b at the same index.
func hasGreater(a, b []int) bool {
	for i := range a {
		if a[i] > b[i] {
			return true
		}
	}
	return false
}

// checkApart: each of two different hashes has a greater digit than the other, for each width.
func checkApart(t *testing.T, g, h api.Hash) {
	t.Helper()
	if g == h {
		return
	}
	for _, w := range widths {
		a, _ := digits.All(g, w)
		b, _ := digits.All(h, w)
		if len(a) == 0 || len(a) != len(b) {
			t.Fatalf("width %d: %d and %d digits", w, len(a), len(b))
		}
		if !hasGreater(a, b) || !hasGreater(b, a) {
			t.Errorf("width %d: %x and %x: a digit is greater only on one side", w, g, h)
		}
	}
}

func TestHashesThatDifferInOneBit(t *testing.T) {
	r := rand.New(rand.NewPCG(3, 2))
	for _, h := range []api.Hash{filled(0), filled(255), filled(0x55), filled(0xaa), mixed(r), mixed(r), mixed(r)} {
		for i := range 256 {
			g := h
			g[i/8] ^= 1 << (i % 8)
			checkApart(t, g, h)
		}
	}
}

func TestHashesThatDifferInOneByte(t *testing.T) {
	r := rand.New(rand.NewPCG(3, 3))
	for _, h := range []api.Hash{filled(0), filled(255), mixed(r)} {
		for _, at := range []int{0, 1, 15, 30, 31} {
			for c := range 256 {
				g := h
				g[at] = byte(c)
				checkApart(t, g, h)
			}
		}
	}
}

// Where no own digit of the one is less than that of the other, only a check digit of the other can be greater.
func TestHashesThatAreAboveOthers(t *testing.T) {
	r := rand.New(rand.NewPCG(3, 4))
	// Bits are added one by one from the first and from the last one, so that the checksum takes every value.
	up, down := filled(0), filled(0)
	for i := range 256 {
		nextUp, nextDown := up, down
		nextUp[i/8] |= 0x80 >> (i % 8)
		nextDown[31-i/8] |= 1 << (i % 8)
		for _, pair := range [][2]api.Hash{{up, nextUp}, {down, nextDown}, {filled(0), nextUp}, {filled(0), nextDown}, {up, filled(255)}, {down, filled(255)}} {
			checkApart(t, pair[0], pair[1])
		}
		up, down = nextUp, nextDown
	}
	for range 2000 {
		low := mixed(r)
		high := mixed(r)
		for i := range high {
			high[i] |= low[i]
		}
		checkApart(t, low, high)
		checkApart(t, low, filled(255))
		checkApart(t, filled(0), high)
	}
}

// Digits moved from one place to another leave the checksum as it is: own digits must differ both ways then.
func TestHashesWithTheSameChecksum(t *testing.T) {
	r := rand.New(rand.NewPCG(3, 5))
	for range 200 {
		h := mixed(r)
		g := h
		slices.Reverse(g[:])
		checkApart(t, g, h)
		g = h
		g[0], g[31] = h[31], h[0]
		checkApart(t, g, h)
	}
}

func FuzzApart(f *testing.F) {
	f.Add(make([]byte, 32), []byte{31: 1})
	f.Fuzz(func(t *testing.T, a, b []byte) {
		var g, h api.Hash
		copy(g[:], a)
		copy(h[:], b)
		checkApart(t, g, h)
		for i := range h {
			h[i] |= g[i]
		}
		checkApart(t, g, h)
	})
}
