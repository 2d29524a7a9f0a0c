package disk_test

import (
	"fmt"
	"math"
	"slices"
	"strings"
	"testing"

	"consistory/api"
	"consistory/disk"
)

// call is one call that returns a disk: the name of its function, and its argument beside the disk.
type call struct {
	name string
	text string
	n    int
}

func (c call) String() string {
	switch c.name {
	case "Write", "Replace":
		return fmt.Sprintf("%s(%.30q of %d bytes)", c.name, c.text, len(c.text))
	case "Sync":
		return "Sync"
	}
	return fmt.Sprintf("%s(%d)", c.name, c.n)
}

func (c call) on(d disk.Disk) (disk.Disk, api.Errno) {
	switch c.name {
	case "Write":
		return disk.Write(d, []byte(c.text))
	case "Sync":
		return disk.Sync(d)
	case "Replace":
		return disk.Replace(d, []byte(c.text))
	case "Blow":
		return disk.Blow(d, c.n), api.OK
	}
	return disk.Crash(d, c.n), api.OK
}

// plain is a disk as the chapter words it, of texts.
type plain struct {
	size        int
	safe, loose string
	down        bool
	fuse        int
}

func plainly(d disk.Disk) plain { return plain{d.Cap, string(d.Safe), string(d.Loose), d.Down, d.Fuse} }

func (p plain) disk() disk.Disk {
	return disk.Disk{Cap: p.size, Safe: []byte(p.safe), Loose: []byte(p.loose), Down: p.down, Fuse: p.fuse}
}

// after is the disk after a call, as the chapter words it.
func (p plain) after(c call) (plain, api.Errno) {
	switch c.name {
	case "Blow":
		if !p.down {
			p.fuse = c.n
		}
		return p, api.OK
	case "Crash":
		var kept string
		for i := range len(p.loose) {
			if i < c.n {
				kept += p.loose[i : i+1]
			}
		}
		return plain{p.size, p.safe + kept, "", false, -1}, api.OK
	}
	if p.down {
		return p, api.ErrDown
	}
	if p.fuse == 0 {
		p.down = true
		return p, api.ErrDown
	}
	if p.fuse > 0 {
		p.fuse--
	}
	switch {
	case c.name == "Sync":
		p.safe, p.loose = p.safe+p.loose, ""
	case c.name == "Write" && len(p.safe+p.loose+c.text) <= p.size:
		p.loose += c.text
	case c.name == "Replace" && len(c.text) <= p.size:
		p.safe, p.loose = c.text, ""
	default:
		return p, api.ErrFull
	}
	return p, api.OK
}

func wantAs(t *testing.T, d disk.Disk, c call, wanted disk.Disk, wantedError api.Errno) {
	t.Helper()
	r, e := c.on(d)
	want(t, fmt.Sprintf("%v on %s", c, text(d)), r, e, wanted, wantedError)
}

// operations are some of each kind, one of which has more bytes than there is room for on a disk with the capacity 9.
var operations = []call{{name: "Write"}, {name: "Write", text: "xy"}, {name: "Write", text: "ten bytes!"}, {name: "Sync"}, {name: "Replace"}, {name: "Replace", text: "xyz"}, {name: "Replace", text: "ten bytes!"}}

func TestOperationsWithoutPower(t *testing.T) {
	for _, d := range []disk.Disk{down(9, "", ""), down(9, "abc", ""), down(9, "", "de"), down(9, "abc", "de"), down(0, "", "")} {
		for _, fuse := range numbers {
			for _, c := range operations {
				wantAs(t, fused(d, fuse), c, fused(d, fuse), api.ErrDown)
			}
		}
	}
}

func TestOperationsThatThePowerFailsAt(t *testing.T) {
	for _, c := range operations {
		wantAs(t, fused(up(9, "", ""), 0), c, down(9, "", ""), api.ErrDown)
		wantAs(t, fused(up(9, "abc", ""), 0), c, down(9, "abc", ""), api.ErrDown)
		wantAs(t, fused(up(9, "", "de"), 0), c, down(9, "", "de"), api.ErrDown)
		wantAs(t, fused(up(9, "abc", "de"), 0), c, down(9, "abc", "de"), api.ErrDown)
	}
}

func TestEachOperation(t *testing.T) {
	for _, c := range []struct {
		call
		safe, loose         string
		wantSafe, wantLoose string
		wanted              api.Errno
	}{
		{call{name: "Write"}, "", "", "", "", api.OK},
		{call{name: "Write"}, "abc", "de", "abc", "de", api.OK},
		{call{name: "Write", text: "xy"}, "", "", "", "xy", api.OK},
		{call{name: "Write", text: "xy"}, "abc", "", "abc", "xy", api.OK},
		{call{name: "Write", text: "xy"}, "", "de", "", "dexy", api.OK},
		{call{name: "Write", text: "xy"}, "abc", "de", "abc", "dexy", api.OK},
		{call{name: "Write", text: "full"}, "abc", "de", "abc", "defull", api.OK},
		{call{name: "Write", text: "more!"}, "abc", "de", "abc", "de", api.ErrFull},
		{call{name: "Write"}, "nine", "bytes", "nine", "bytes", api.OK},
		{call{name: "Write", text: "x"}, "nine", "bytes", "nine", "bytes", api.ErrFull},
		{call{name: "Write", text: "x"}, "nine byte", "", "nine byte", "", api.ErrFull},
		{call{name: "Write", text: "x"}, "", "nine byte", "", "nine byte", api.ErrFull},
		{call{name: "Sync"}, "", "", "", "", api.OK},
		{call{name: "Sync"}, "abc", "", "abc", "", api.OK},
		{call{name: "Sync"}, "", "de", "de", "", api.OK},
		{call{name: "Sync"}, "abc", "de", "abcde", "", api.OK},
		{call{name: "Sync"}, "nine", "bytes", "ninebytes", "", api.OK},
		{call{name: "Replace"}, "", "", "", "", api.OK},
		{call{name: "Replace"}, "abc", "de", "", "", api.OK},
		{call{name: "Replace", text: "xy"}, "abc", "", "xy", "", api.OK},
		{call{name: "Replace", text: "xy"}, "", "de", "xy", "", api.OK},
		{call{name: "Replace", text: "xy"}, "abc", "de", "xy", "", api.OK},
		{call{name: "Replace", text: "nine byte"}, "abc", "de", "nine byte", "", api.OK},
		{call{name: "Replace", text: "nine byte"}, "nine", "bytes", "nine byte", "", api.OK},
		{call{name: "Replace", text: "ten bytes!"}, "abc", "de", "abc", "de", api.ErrFull},
		{call{name: "Replace", text: "ten bytes!"}, "", "", "", "", api.ErrFull},
	} {
		// An operation that changes nothing counts, too.
		for fuse, left := range map[int]int{1: 0, 2: 1, 3: 2, 1000: 999, math.MaxInt: math.MaxInt - 1, -1: -1, -2: -2, -1000: -1000, math.MinInt: math.MinInt} {
			wantAs(t, fused(up(9, c.safe, c.loose), fuse), c.call, fused(up(9, c.wantSafe, c.wantLoose), left), c.wanted)
		}
	}
}

func TestRoomForEachNumberOfBytes(t *testing.T) {
	for size := range 12 {
		for used := range size + 1 {
			for safe := range used + 1 {
				for n := range 15 {
					d := up(size, strings.Repeat("s", safe), strings.Repeat("l", used-safe))
					x := strings.Repeat("x", n)
					if used+n <= size {
						wantAs(t, d, call{name: "Write", text: x}, up(size, string(d.Safe), string(d.Loose)+x), api.OK)
					} else {
						wantAs(t, d, call{name: "Write", text: x}, d, api.ErrFull)
					}
					if n <= size {
						wantAs(t, d, call{name: "Replace", text: x}, up(size, x, ""), api.OK)
					} else {
						wantAs(t, d, call{name: "Replace", text: x}, d, api.ErrFull)
					}
				}
			}
		}
	}
}

func TestRoomOfTheLargestDisk(t *testing.T) {
	long := strings.Repeat("0123456789", maxCap/10+1)
	d, _ := disk.New(maxCap)
	wantAs(t, d, call{name: "Write", text: long[:maxCap]}, up(maxCap, "", long[:maxCap]), api.OK)
	wantAs(t, d, call{name: "Write", text: long[:maxCap+1]}, d, api.ErrFull)
	wantAs(t, d, call{name: "Replace", text: long[:maxCap]}, up(maxCap, long[:maxCap], ""), api.OK)
	wantAs(t, d, call{name: "Replace", text: long[:maxCap+1]}, d, api.ErrFull)
	d = up(maxCap, long[:600_000], long[:300_000])
	wantAs(t, d, call{name: "Write", text: long[:100_000]}, up(maxCap, long[:600_000], long[:300_000]+long[:100_000]), api.OK)
	wantAs(t, fused(d, 1), call{name: "Write", text: long[:100_001]}, fused(d, 0), api.ErrFull)
	wantAs(t, d, call{name: "Sync"}, up(maxCap, long[:600_000]+long[:300_000], ""), api.OK)
}

// The example of the chapter.
func TestSyncBehindTheFuse(t *testing.T) {
	d, _ := disk.New(9)
	d = disk.Blow(d, 1)
	want(t, "Blow", d, api.OK, fused(up(9, "", ""), 1), api.OK)
	d, e := disk.Write(d, []byte("abc"))
	want(t, "Write", d, e, fused(up(9, "", "abc"), 0), api.OK)
	d, e = disk.Sync(d)
	want(t, "Sync", d, e, down(9, "", "abc"), api.ErrDown)
	d, e = disk.Sync(d)
	want(t, "Sync again", d, e, down(9, "", "abc"), api.ErrDown)
	d = disk.Crash(d, 2)
	want(t, "Crash", d, api.OK, up(9, "ab", ""), api.OK)
}

// Exactly as many operations as the Fuse says are performed, whatever they are.
func TestFuseCountsOperations(t *testing.T) {
	for fuse := range 20 {
		d := disk.Blow(up(9, "abc", "de"), fuse)
		for i := range 30 {
			c := operations[i%len(operations)]
			before := d
			var e api.Errno
			d, e = c.on(d)
			if (e == api.ErrDown) != (i >= fuse) || d.Down != (i >= fuse) {
				t.Errorf("Fuse %d, operation %d, %v: %s, %d", fuse, i, c, text(d), e)
			}
			if i < fuse && d.Fuse != fuse-i-1 || i >= fuse && (d.Fuse != 0 || !slices.Equal(d.Safe, before.Safe) || !slices.Equal(d.Loose, before.Loose)) {
				t.Errorf("Fuse %d, operation %d, %v: %s before, %s after it", fuse, i, c, text(before), text(d))
			}
		}
	}
	d := up(9, "abc", "de")
	for i := range 100 {
		var e api.Errno
		if d, e = operations[i%len(operations)].on(d); e == api.ErrDown || d.Fuse != -1 || d.Down {
			t.Errorf("no Fuse, operation %d: %s, %d", i, text(d), e)
		}
	}
}

func TestBlow(t *testing.T) {
	for _, old := range numbers {
		for _, fuse := range numbers {
			for _, d := range []disk.Disk{up(9, "", ""), up(9, "abc", ""), up(9, "", "de"), up(9, "abc", "de"), up(5, "abc", "de")} {
				wantAs(t, fused(d, old), call{name: "Blow", n: fuse}, fused(d, fuse), api.OK)
				d.Down = true
				wantAs(t, fused(d, old), call{name: "Blow", n: fuse}, fused(d, old), api.OK)
			}
		}
	}
}

func TestCrash(t *testing.T) {
	for keep, loose := range map[int]string{
		math.MinInt: "", -maxCap: "", -2: "", -1: "", 0: "", 1: "d", 2: "de", 3: "def", 4: "defg", 5: "defg", 6: "defg", 9: "defg", 10: "defg", maxCap: "defg", math.MaxInt: "defg",
	} {
		c := call{name: "Crash", n: keep}
		for _, fuse := range numbers {
			wantAs(t, fused(up(9, "abc", "defg"), fuse), c, up(9, "abc"+loose, ""), api.OK)
			wantAs(t, fused(up(7, "abc", "defg"), fuse), c, up(7, "abc"+loose, ""), api.OK)
			wantAs(t, fused(down(9, "abc", "defg"), fuse), c, up(9, "abc"+loose, ""), api.OK)
			wantAs(t, fused(down(9, "", "defg"), fuse), c, up(9, loose, ""), api.OK)
			wantAs(t, fused(down(9, "abc", ""), fuse), c, up(9, "abc", ""), api.OK)
			wantAs(t, fused(down(9, "", ""), fuse), c, up(9, "", ""), api.OK)
		}
	}
	long := strings.Repeat("0123456789", maxCap/10)
	wantAs(t, up(maxCap, long[:400_000], long[400_000:]), call{name: "Crash", n: 123_456}, up(maxCap, long[:523_456], ""), api.OK)
	wantAs(t, down(maxCap, "", long), call{name: "Crash", n: maxCap}, up(maxCap, long, ""), api.OK)
}

// texts are all texts of up to n of these bytes.
func texts(letters string, n int) []string {
	l := []string{""}
	for i := 0; i < len(l); i++ {
		if len(l[i]) < n {
			for j := range letters {
				l = append(l, l[i]+letters[j:j+1])
			}
		}
	}
	return l
}

// smallDisks are all valid disks with a capacity of up to 3, with these Fuses and two bytes.
func smallDisks() []plain {
	var l []plain
	for size := range 4 {
		for _, s := range texts("ab", size) {
			for n := range len(s) + 1 {
				for _, fuse := range []int{-2, -1, 0, 1, 2} {
					l = append(l, plain{size, s[:n], s[n:], false, fuse}, plain{size, s[:n], s[n:], true, fuse})
				}
			}
		}
	}
	return l
}

// smallCalls are all calls with up to 4 of two bytes, and with numbers that are near to those.
func smallCalls() []call {
	l := []call{{name: "Sync"}}
	for _, s := range texts("ab", 4) {
		l = append(l, call{name: "Write", text: s}, call{name: "Replace", text: s})
	}
	for n := -2; n <= 5; n++ {
		l = append(l, call{name: "Blow", n: n}, call{name: "Crash", n: n})
	}
	return l
}

func TestEachCallOnEachSmallDisk(t *testing.T) {
	calls := smallCalls()
	for _, p := range smallDisks() {
		for _, c := range calls {
			after, e := p.after(c)
			wantAs(t, p.disk(), c, after.disk(), e)
			if !disk.Right(after.disk()) {
				t.Errorf("%v on %v: %v is not valid", c, p, after)
			}
		}
	}
}

func TestSameOfEachTwoSmallDisks(t *testing.T) {
	l := smallDisks()
	var disks []disk.Disk
	for _, p := range l {
		disks = append(disks, p.disk())
	}
	for i, p := range l {
		for j, q := range l {
			p.fuse, q.fuse = max(p.fuse, -1), max(q.fuse, -1)
			if disk.Same(disks[i], disks[j]) != (p == q) {
				t.Errorf("Same(%v, %v) = %v", l[i], l[j], p != q)
			}
		}
	}
}

// Only valid disks are required to be handled, but with others nothing panics, and Right finds what comes of them.
func TestCallsOnWrongDisks(t *testing.T) {
	for _, size := range numbers {
		for _, s := range []string{"", "a", "more bytes than that"} {
			for _, loose := range []string{"", "a", "and even more"} {
				for _, fuse := range []int{-1, 0, 1} {
					d := fused(up(size, s, loose), fuse)
					for _, c := range operations {
						r, _ := c.on(d)
						disk.Right(r)
					}
					for _, n := range numbers {
						disk.Right(disk.Blow(d, n))
						disk.Right(disk.Crash(d, n))
					}
					disk.Read(d)
				}
			}
		}
	}
}
