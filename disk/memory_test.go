package disk_test

import (
	"bytes"
	"slices"
	"testing"

	"consistory/api"
	"consistory/disk"
)

// laid is a disk whose bytes lie within memory: those of Safe, and those of Loose directly behind them, so that what is appended to one of them in place changes other bytes.
func laid(p plain) (d disk.Disk, memory []byte) {
	memory = slices.Concat([]byte("<<<"), []byte(p.safe), []byte(p.loose), []byte(">>>>>>>>>>"))
	end := 3 + len(p.safe)
	d = p.disk()
	d.Safe, d.Loose = memory[3:end], memory[end:end+len(p.loose)]
	return d, memory
}

// scribble changes all that may be changed by one who was given b.
func scribble(b []byte) {
	_ = append(b, "more"...)
	whole := b[:cap(b)]
	for i := range whole {
		whole[i] ^= 0xff
	}
}

func TestNothingHandedInIsChanged(t *testing.T) {
	calls := smallCalls()
	for _, p := range smallDisks() {
		d, memory := laid(p)
		before := slices.Clone(memory)
		for _, c := range calls {
			r, _ := c.on(d)
			if !bytes.Equal(memory, before) {
				t.Fatalf("%v on %v changed what it was given", c, p)
			}
			scribble(r.Safe)
			if !bytes.Equal(memory, before) {
				t.Fatalf("%v on %v: Safe shares memory with what was given", c, p)
			}
			loose := slices.Clone(r.Loose)
			scribble(r.Safe)
			if !bytes.Equal(r.Loose, loose) {
				t.Fatalf("%v on %v: Safe shares memory with Loose", c, p)
			}
			scribble(r.Loose)
			if !bytes.Equal(memory, before) {
				t.Fatalf("%v on %v: Loose shares memory with what was given", c, p)
			}
		}
		b, _ := disk.Read(d)
		scribble(b)
		disk.Right(d)
		disk.Same(d, d)
		if !bytes.Equal(memory, before) || plainly(d) != p {
			t.Fatalf("Read, Right or Same of %v changed what they were given", p)
		}
	}
}

func TestBytesHandedInAreNotKept(t *testing.T) {
	for _, n := range []int{0, 1, 5, 100, 5000} {
		whole := slices.Concat([]byte("<<<"), bytes.Repeat([]byte("x"), n), []byte(">>>"))
		before := slices.Clone(whole)
		for name, f := range map[string]func(d disk.Disk, b []byte) (disk.Disk, api.Errno){"Write": disk.Write, "Replace": disk.Replace} {
			for _, d := range []disk.Disk{up(9000, "", ""), up(9000, "abc", "de"), up(9000, "abc", ""), up(n, "", ""), up(2, "", "a"), fused(up(9000, "abc", "de"), 0)} {
				b := whole[3 : 3+n]
				r, _ := f(d, b)
				if !bytes.Equal(whole, before) {
					t.Fatalf("%s of %d bytes changed them", name, n)
				}
				kept := plainly(r)
				scribble(b)
				if plainly(r) != kept {
					t.Errorf("%s of %d bytes on %s: it changes when they are changed", name, n, text(d))
				}
				copy(whole, before)
				scribble(r.Safe)
				scribble(r.Loose)
				if !bytes.Equal(whole, before) {
					t.Errorf("%s of %d bytes on %s: they change when it is changed", name, n, text(d))
				}
			}
		}
	}
}

// What is written on a disk can be the disk's own bytes.
func TestWhatTheDiskHasIsWritten(t *testing.T) {
	d, memory := laid(plain{20, "abc", "defg", false, -1})
	before := slices.Clone(memory)
	for _, c := range []struct {
		b               []byte
		written, placed string
	}{
		{d.Safe, "defgabc", "abc"}, {d.Loose, "defgdefg", "defg"}, {d.Safe[:7], "defgabcdefg", "abcdefg"}, {d.Safe[1:5], "defgbcde", "bcde"},
	} {
		r, e := disk.Write(d, c.b)
		want(t, "Write", r, e, up(20, "abc", c.written), api.OK)
		r, e = disk.Replace(d, c.b)
		want(t, "Replace", r, e, up(20, c.placed, ""), api.OK)
	}
	if !bytes.Equal(memory, before) {
		t.Errorf("%q became %q", before, memory)
	}
}

// Two disks that come of the same one have nothing in common.
func TestTwoWaysOn(t *testing.T) {
	for _, p := range []plain{{30, "", "", false, -1}, {30, "abc", "", false, -1}, {30, "", "de", false, -1}, {30, "abc", "de", false, -1}, {30, "abc", "defgh", true, 0}, {30, "abc", "de", false, 40}} {
		for _, first := range operations {
			for _, second := range append(operations, call{name: "Crash", n: 1}, call{name: "Blow", n: 1}) {
				// A few steps ahead, so that there is room in the memory of the disk.
				d := p.disk()
				for range 3 {
					d, _ = disk.Write(d, []byte("w"))
				}
				d, _ = first.on(d)
				start := plainly(d)
				one, _ := disk.Write(d, []byte("1"))
				kept := plainly(one)
				two, _ := second.on(d)
				other := plainly(two)
				two, _ = disk.Write(two, []byte("22"))
				disk.Sync(two)
				disk.Crash(one, 1)
				if plainly(one) != kept || plainly(d) != start {
					t.Errorf("%v, %v, %v: %v became %v, and %v became %v", p, first, second, kept, plainly(one), start, plainly(d))
				}
				if again, _ := second.on(d); plainly(again) != other {
					t.Errorf("%v, %v, %v: %v became %v", p, first, second, other, plainly(again))
				}
			}
		}
	}
}
