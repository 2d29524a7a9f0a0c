package disk_test

import (
	"fmt"
	"math"
	"strings"
	"testing"

	"consistory/api"
	"consistory/disk"
)

const maxCap = 1_000_000

// numbers are chosen ones, at all limits.
var numbers = []int{math.MinInt, math.MinInt + 1, -maxCap - 1, -maxCap, -1000, -3, -2, -1, 0, 1, 2, 3, 4, 7, 1000, maxCap - 1, maxCap, maxCap + 1, 1 << 32, math.MaxInt - 1, math.MaxInt}

// up is a disk with power, and without a fuse.
func up(size int, safe, loose string) disk.Disk {
	return disk.Disk{Cap: size, Safe: []byte(safe), Loose: []byte(loose), Fuse: -1}
}

// down is a disk without power; its Fuse is 0, since that is how it came to be.
func down(size int, safe, loose string) disk.Disk {
	d := up(size, safe, loose)
	d.Down, d.Fuse = true, 0
	return d
}

func fused(d disk.Disk, fuse int) disk.Disk {
	d.Fuse = fuse
	return d
}

// equal compares all fields; unlike for Same, negative Fuses that differ are unequal.
func equal(a, b disk.Disk) bool {
	return a.Cap == b.Cap && string(a.Safe) == string(b.Safe) && string(a.Loose) == string(b.Loose) && a.Down == b.Down && a.Fuse == b.Fuse
}

func text(d disk.Disk) string {
	return fmt.Sprintf("{Cap %d, Safe %.30q (%d), Loose %.30q (%d), Down %v, Fuse %d}", d.Cap, d.Safe, len(d.Safe), d.Loose, len(d.Loose), d.Down, d.Fuse)
}

// want checks a disk that was returned with an error number, which may be OK.
func want(t *testing.T, what string, d disk.Disk, e api.Errno, wanted disk.Disk, wantedError api.Errno) {
	t.Helper()
	if e != wantedError {
		t.Errorf("%s: error %d, not %d", what, e, wantedError)
	}
	if !equal(d, wanted) {
		t.Errorf("%s: %s, not %s", what, text(d), text(wanted))
	}
}

func wantBytes(t *testing.T, d disk.Disk, wanted string) {
	t.Helper()
	if b, e := disk.Read(d); string(b) != wanted || e != api.OK {
		t.Errorf("Read(%s) = %.30q of %d bytes, %d, not %.30q", text(d), b, len(b), e, wanted)
	}
}

func TestNew(t *testing.T) {
	for _, size := range []int{0, 1, 2, 255, 256, 4096, 65536, maxCap - 1, maxCap} {
		d, e := disk.New(size)
		want(t, fmt.Sprintf("New(%d)", size), d, e, disk.Disk{Cap: size, Fuse: -1}, api.OK)
		if !disk.Right(d) {
			t.Errorf("New(%d) is not valid", size)
		}
		wantBytes(t, d, "")
	}
	for _, size := range numbers {
		if 0 <= size && size <= maxCap {
			continue
		}
		d, e := disk.New(size)
		want(t, fmt.Sprintf("New(%d)", size), d, e, disk.Disk{}, api.ErrArg)
	}
}

func TestRightOfCapacities(t *testing.T) {
	for _, size := range append(numbers, 5, 255, 256) {
		right := 0 <= size && size <= maxCap
		for _, d := range []disk.Disk{{Cap: size}, {Cap: size, Fuse: -1}, {Cap: size, Down: true}, up(size, "", ""), down(size, "", "")} {
			if disk.Right(d) != right {
				t.Errorf("Right(%s) = %v", text(d), !right)
			}
		}
	}
}

func TestRightOfNumbersOfBytes(t *testing.T) {
	for size := range 12 {
		for safe := range 14 {
			for loose := range 14 {
				d := up(size, strings.Repeat("s", safe), strings.Repeat("l", loose))
				if got := disk.Right(d); got != (safe+loose <= size) {
					t.Errorf("Right(%s) = %v", text(d), got)
				}
			}
		}
	}
	long := strings.Repeat("x", maxCap+1)
	for _, c := range []struct {
		size, safe, loose int
		want              bool
	}{
		{maxCap, maxCap, 0, true}, {maxCap, 0, maxCap, true}, {maxCap, 600_000, 400_000, true}, {maxCap, 1, maxCap - 1, true}, {maxCap - 1, 1, maxCap - 2, true},
		{maxCap, maxCap + 1, 0, false}, {maxCap, 0, maxCap + 1, false}, {maxCap, maxCap, 1, false}, {maxCap, 600_000, 400_001, false}, {maxCap - 1, 1, maxCap - 1, false},
		{maxCap + 1, maxCap, 0, false}, {maxCap + 1, maxCap, 1, false}, {-1, 0, 1, false}, {math.MinInt, maxCap, maxCap, false}, {math.MaxInt, 1, 1, false},
	} {
		if got := disk.Right(up(c.size, long[:c.safe], long[:c.loose])); got != c.want {
			t.Errorf("Right of %d and %d bytes on %d = %v", c.safe, c.loose, c.size, got)
		}
	}
}

// Nothing limits what the power and the Fuse are.
func TestRightOfEachFuse(t *testing.T) {
	for _, fuse := range numbers {
		for _, off := range []bool{false, true} {
			for loose, right := range map[string]bool{"": true, "c": true, "cd": false} {
				d := disk.Disk{Cap: 3, Safe: []byte("ab"), Loose: []byte(loose), Down: off, Fuse: fuse}
				if disk.Right(d) != right {
					t.Errorf("Right(%s) = %v", text(d), !right)
				}
			}
		}
	}
}

func TestRead(t *testing.T) {
	long := strings.Repeat("0123456789", maxCap/10)
	for _, c := range []struct{ safe, loose string }{{"", ""}, {"a", ""}, {"", "b"}, {"abc", "def"}, {"b", "a"}, {"\x00", "\xff"}, {long, ""}, {"", long}, {long[:7], long[7:]}} {
		for _, fuse := range numbers {
			d := fused(up(maxCap, c.safe, c.loose), fuse)
			wantBytes(t, d, c.safe+c.loose)
			d.Down = true
			if b, e := disk.Read(d); len(b) != 0 || e != api.ErrDown {
				t.Errorf("Read(%s) = %q, %d", text(d), b, e)
			}
		}
	}
}

// Reading is no operation: it is possible up to the one with which the power fails, and does not bring it nearer.
func TestReadLeavesTheFuse(t *testing.T) {
	d := disk.Blow(up(9, "ab", "c"), 1)
	for range 5 {
		wantBytes(t, d, "abc")
	}
	d, e := disk.Write(d, []byte("d"))
	want(t, "Write", d, e, fused(up(9, "ab", "cd"), 0), api.OK)
	for range 5 {
		wantBytes(t, d, "abcd")
	}
}

func TestSameOfOneDifference(t *testing.T) {
	d := disk.Disk{Cap: 9, Safe: []byte("ab"), Loose: []byte("cde"), Fuse: 2}
	if !disk.Same(d, disk.Disk{Cap: 9, Safe: []byte("ab"), Loose: []byte("cde"), Fuse: 2}) {
		t.Error("a disk is not the same as an equal one")
	}
	for name, o := range map[string]disk.Disk{
		"Cap":           {Cap: 8, Safe: d.Safe, Loose: d.Loose, Fuse: 2},
		"Safe":          {Cap: 9, Safe: []byte("aB"), Loose: d.Loose, Fuse: 2},
		"shorter Safe":  {Cap: 9, Safe: []byte("a"), Loose: d.Loose, Fuse: 2},
		"longer Safe":   {Cap: 9, Safe: []byte("abc"), Loose: d.Loose, Fuse: 2},
		"no Safe":       {Cap: 9, Loose: d.Loose, Fuse: 2},
		"Loose":         {Cap: 9, Safe: d.Safe, Loose: []byte("cdE"), Fuse: 2},
		"shorter Loose": {Cap: 9, Safe: d.Safe, Loose: []byte("cd"), Fuse: 2},
		"longer Loose":  {Cap: 9, Safe: d.Safe, Loose: []byte("cdef"), Fuse: 2},
		"no Loose":      {Cap: 9, Safe: d.Safe, Fuse: 2},
		"Down":          {Cap: 9, Safe: d.Safe, Loose: d.Loose, Down: true, Fuse: 2},
		"Fuse":          {Cap: 9, Safe: d.Safe, Loose: d.Loose, Fuse: 3},
		"no Fuse":       {Cap: 9, Safe: d.Safe, Loose: d.Loose, Fuse: -1},
		"other place":   {Cap: 9, Safe: []byte("abc"), Loose: []byte("de"), Fuse: 2},
		"all durable":   {Cap: 9, Safe: []byte("abcde"), Fuse: 2},
		"none durable":  {Cap: 9, Loose: []byte("abcde"), Fuse: 2},
		"exchanged":     {Cap: 9, Safe: d.Loose, Loose: d.Safe, Fuse: 2},
	} {
		if disk.Same(d, o) || disk.Same(o, d) {
			t.Errorf("%s: %s is the same as %s", name, text(d), text(o))
		}
		if !disk.Same(o, o) {
			t.Errorf("%s is not the same as itself", text(o))
		}
	}
}

func TestSameOfFuses(t *testing.T) {
	for _, off := range []bool{false, true} {
		for _, a := range numbers {
			for _, b := range numbers {
				x, y := disk.Disk{Cap: 3, Down: off, Fuse: a}, disk.Disk{Cap: 3, Down: off, Fuse: b}
				if got := disk.Same(x, y); got != (a == b || a < 0 && b < 0) {
					t.Errorf("Same with the Fuses %d and %d = %v", a, b, got)
				}
			}
		}
	}
}

func TestSameOfNothing(t *testing.T) {
	for _, a := range [][]byte{nil, {}, make([]byte, 0, 5)} {
		for _, b := range [][]byte{nil, {}, []byte("abc")[3:]} {
			for _, c := range [][]byte{nil, {}, []byte("x")} {
				if !disk.Same(disk.Disk{Cap: 3, Safe: a, Loose: c}, disk.Disk{Cap: 3, Safe: b, Loose: c}) || !disk.Same(disk.Disk{Cap: 3, Safe: c, Loose: a}, disk.Disk{Cap: 3, Safe: c, Loose: b}) {
					t.Errorf("%#v and %#v, with %#v: not the same", a, b, c)
				}
			}
		}
	}
}

// Same accepts any values of the fields.
func TestSameOfWrongDisks(t *testing.T) {
	for _, a := range numbers {
		for _, b := range numbers {
			if got := disk.Same(up(a, "more", "than"), up(b, "more", "than")); got != (a == b) {
				t.Errorf("Same with the capacities %d and %d = %v", a, b, got)
			}
		}
	}
}
