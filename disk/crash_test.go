package disk_test

import (
	"bytes"
	"fmt"
	"math/rand/v2"
	"slices"
	"strings"
	"testing"

	"consistory/api"
	"consistory/disk"
)

// witness knows of a disk only what its calls have returned: which bytes were made durable last, and what was written since.
type witness struct {
	d              disk.Disk
	durable, since string
	// left is how many operations there still are; any number if it is negative.
	left int
}

// watching is what a witness knows of a new disk.
func watching(t *testing.T, size int) witness {
	t.Helper()
	d, e := disk.New(size)
	if e != api.OK {
		t.Fatalf("New(%d): error %d", size, e)
	}
	return witness{d: d, left: -1}
}

// after is the witness after a call, and what is wrong with what this returned, if anything is.
func (w witness) after(c call) (witness, string) {
	var e api.Errno
	powered := !w.d.Down
	w.d, e = c.on(w.d)
	if !disk.Right(w.d) {
		return w, "the disk is not valid"
	}
	switch c.name {
	case "Crash":
		return w.crashed(c.n)
	case "Blow":
		if powered {
			w.left = max(c.n, -1)
		}
	default:
		if fault := w.expect(c, e); fault != "" {
			return w, fault
		}
		if w.left > 0 {
			w.left--
		}
	}
	if e == api.OK {
		w.written(c)
	}
	b, e := disk.Read(w.d)
	if e == api.OK && string(b) != w.durable+w.since || e != api.OK && !w.d.Down {
		return w, fmt.Sprintf("Read returned %q, %d, not %q", b, e, w.durable+w.since)
	}
	return w, ""
}

// expect tells what is wrong with the error that an operation returned, if anything is.
func (w witness) expect(c call, e api.Errno) string {
	var wanted api.Errno
	switch {
	case w.left == 0:
		wanted = api.ErrDown
	case c.name == "Write" && len(w.durable)+len(w.since)+len(c.text) > w.d.Cap, c.name == "Replace" && len(c.text) > w.d.Cap:
		wanted = api.ErrFull
	}
	if e != wanted || w.d.Down != (e == api.ErrDown) {
		return fmt.Sprintf("error %d, not %d", e, wanted)
	}
	return ""
}

// written takes down what an operation without an error did.
func (w *witness) written(c call) {
	switch c.name {
	case "Write":
		w.since += c.text
	case "Sync":
		w.durable, w.since = w.durable+w.since, ""
	case "Replace":
		w.durable, w.since = c.text, ""
	}
}

// crashed is the witness after a crash: what is read is what was durable, followed by a prefix of what was written since.
func (w witness) crashed(keep int) (witness, string) {
	b, e := disk.Read(w.d)
	if e != api.OK {
		return w, fmt.Sprintf("Read after a crash: error %d", e)
	}
	kept, whole := strings.CutPrefix(string(b), w.durable)
	if !whole {
		return w, fmt.Sprintf("%q was durable, and %q is left", w.durable, b)
	}
	if !strings.HasPrefix(w.since, kept) || len(kept) != min(max(keep, 0), len(w.since)) {
		return w, fmt.Sprintf("%q was written since, and %q of it is left", w.since, kept)
	}
	w.durable, w.since, w.left = string(b), "", -1
	return w, ""
}

func TestDurabilityOfEachShortScript(t *testing.T) {
	calls := []call{
		{name: "Write", text: "a"}, {name: "Write", text: "bc"}, {name: "Sync"}, {name: "Replace", text: "d"}, {name: "Replace", text: "large"},
		{name: "Blow", n: 0}, {name: "Blow", n: 1}, {name: "Blow", n: 2}, {name: "Crash", n: -1}, {name: "Crash", n: 1}, {name: "Crash", n: 9},
	}
	var script []call
	var try func(w witness)
	try = func(w witness) {
		if len(script) == 5 {
			return
		}
		for _, c := range calls {
			script = append(script, c)
			next, fault := w.after(c)
			if fault != "" {
				t.Errorf("%v: %s", script, fault)
			} else {
				try(next)
			}
			script = script[:len(script)-1]
		}
	}
	try(watching(t, 4))
}

// noise is pseudorandom text.
func noise(r *rand.Rand, n int) string {
	b := make([]byte, n)
	for i := range b {
		b[i] = byte(r.Uint32())
	}
	return string(b)
}

// pseudorandom is a call on a disk with this capacity, of which each kind occurs.
func pseudorandom(r *rand.Rand, size int) call {
	switch r.IntN(12) {
	case 0:
		return call{name: "Replace", text: noise(r, r.IntN(size+2))}
	case 1, 2:
		return call{name: "Blow", n: r.IntN(9) - 1}
	case 3:
		return call{name: "Crash", n: r.IntN(size+4) - 2}
	case 4:
		return call{name: "Crash", n: r.IntN(8) - 2}
	case 5, 6, 7:
		return call{name: "Sync"}
	}
	return call{name: "Write", text: noise(r, r.IntN(size/4+2))}
}

func TestDurabilityOfPseudorandomScripts(t *testing.T) {
	kinds := map[string]int{}
	for _, p := range []struct{ size, scripts, steps int }{{0, 100, 40}, {1, 300, 40}, {5, 1000, 40}, {40, 1000, 100}, {1000, 300, 100}, {100_000, 5, 40}, {maxCap, 2, 25}} {
		for seed := range p.scripts {
			r := rand.New(rand.NewPCG(uint64(seed), uint64(p.size)))
			w := watching(t, p.size)
			for step := range p.steps {
				c := pseudorandom(r, p.size)
				var fault string
				before := w
				if w, fault = w.after(c); fault != "" {
					t.Fatalf("capacity %d, seed %d, step %d, %v on %s: %s", p.size, seed, step, c, text(before.d), fault)
				}
				if c.name == "Crash" && len(before.since) > 0 {
					kinds["of which a crash kept "+amount(len(w.durable)-len(before.durable), len(before.since))]++
				}
				if c.name == "Crash" && before.d.Down {
					kinds["without power"]++
				}
			}
		}
	}
	for _, k := range []string{"of which a crash kept none", "of which a crash kept some", "of which a crash kept all", "without power"} {
		if kinds[k] < 100 {
			t.Errorf("%d disks %s", kinds[k], k)
		}
	}
}

func amount(kept, all int) string {
	switch kept {
	case 0:
		return "none"
	case all:
		return "all"
	}
	return "some"
}

// Each place at which the power can fail in a script, and each number of bytes that can be kept then.
func TestDurabilityAtEachPlace(t *testing.T) {
	script := []call{
		{name: "Write", text: "first "}, {name: "Write", text: "second "}, {name: "Sync"}, {name: "Write", text: "third "}, {name: "Sync"}, {name: "Sync"}, {name: "Write"},
		{name: "Write", text: "fourth "}, {name: "Write", text: "too many bytes for this disk"}, {name: "Replace", text: "other "}, {name: "Write", text: "last "}, {name: "Sync"}, {name: "Write", text: "end"},
	}
	for fuse := range len(script) + 2 {
		for keep := -1; keep < 20; keep++ {
			w, fault := watching(t, 32).after(call{name: "Blow", n: fuse})
			for _, c := range slices.Concat(script, []call{{name: "Crash", n: keep}, {name: "Write", text: "!"}, {name: "Sync"}, {name: "Crash"}}) {
				if fault == "" {
					w, fault = w.after(c)
				}
			}
			if fault != "" || !strings.HasSuffix(w.durable, "!") {
				t.Errorf("Fuse %d, keep %d: %q is left; %s", fuse, keep, w.durable, fault)
			}
		}
	}
}

// A second crash finds only durable bytes.
func TestCrashesInARow(t *testing.T) {
	d := up(9, "abc", "defg")
	for keep := -1; keep < 6; keep++ {
		once := disk.Crash(d, keep)
		for again := -1; again < 6; again++ {
			if twice := disk.Crash(once, again); !disk.Same(once, twice) {
				t.Errorf("keep %d and %d: %s became %s", keep, again, text(once), text(twice))
			}
		}
	}
}

func FuzzDurability(f *testing.F) {
	f.Add(uint16(9), []byte("\x00\x03\x01\x00\x02\x02\x03\x01\x04\x05"))
	f.Add(uint16(0), []byte("\x00\x00\x01\x00\x03\x00\x02\x01\x04\x01"))
	f.Add(uint16(300), bytes.Repeat([]byte("\x00\xff\x01\x00\x00\x09\x04\x05"), 9))
	f.Fuzz(func(t *testing.T, size uint16, script []byte) {
		w := watching(t, int(size))
		p := plainly(w.d)
		for i := 0; i+1 < len(script) && i < 400; i += 2 {
			n := int(script[i+1])
			c := call{name: []string{"Write", "Sync", "Replace", "Blow", "Crash"}[script[i]%5]}
			switch c.name {
			case "Write", "Replace":
				c.text = strings.Repeat(string(rune('a'+i%26)), n)
			case "Blow", "Crash":
				c.n = n - 3
			}
			var fault string
			if w, fault = w.after(c); fault != "" {
				t.Fatalf("step %d, %v: %s", i/2, c, fault)
			}
			if p, _ = p.after(c); plainly(w.d) != p {
				t.Fatalf("step %d, %v: %s, not %v", i/2, c, text(w.d), p)
			}
		}
	})
}
