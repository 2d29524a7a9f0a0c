package crc_test

import (
	"bytes"
	"math/rand/v2"
	"slices"
	"testing"

	"consistory/api"
	"consistory/crc"
)

// row is a row of frames, one behind the other.
func row(contents ...[]byte) []byte {
	var b []byte
	for _, data := range contents {
		b = append(b, plainFrame(data)...)
	}
	return b
}

func wantScanned(t *testing.T, b []byte, contents [][]byte, size int) {
	t.Helper()
	l, n := crc.Scan(b)
	if !slices.EqualFunc(l, contents, bytes.Equal) || n != size {
		t.Errorf("Scan(%.60q) of %d bytes: %d frames of %d bytes, not %d frames of %d bytes", b, len(b), len(l), n, len(contents), size)
	}
}

// tails are bytes that are no frame.
func tails() map[string][]byte {
	f := plainFrame([]byte("tail"))
	return map[string][]byte{
		"nothing":         nil,
		"a zero":          {0},
		"another byte":    {166},
		"text":            []byte("text"),
		"a marker":        {167},
		"a bad number":    {167, 9},
		"half a number":   {167, 1},
		"a large number":  {167, 3, 1, 0x86, 0xa1},
		"no sum":          f[:len(f)-4],
		"half a sum":      f[:len(f)-2],
		"a wrong sum":     append(f[:len(f)-1:len(f)-1], f[len(f)-1]^1),
		"a frame behind":  append([]byte{0}, f...),
		"too large a one": crc.Frame(nil, make([]byte, maxData+1)),
	}
}

func TestScanOfFrames(t *testing.T) {
	all := [][]byte{nil, []byte("ab"), noise(1, 300), {}, {167}, noise(2, 65536), plainFrame([]byte("in a frame")), noise(3, maxData)}
	for i := range len(all) + 1 {
		b := row(all[:i]...)
		for name, tail := range tails() {
			if l, n := crc.Scan(slices.Concat(b, tail)); !slices.EqualFunc(l, all[:i], bytes.Equal) || n != len(b) {
				t.Errorf("%d frames, and %s behind them: %d frames, %d bytes", i, name, len(l), n)
			}
		}
	}
	for _, data := range all {
		wantScanned(t, crc.Frame(nil, data), [][]byte{data}, crc.Long(len(data)))
	}
	wantScanned(t, nil, nil, 0)
	wantScanned(t, []byte{}, nil, 0)
}

func TestScanOfManyFrames(t *testing.T) {
	for _, data := range [][]byte{nil, []byte("a"), noise(1, 100)} {
		b := bytes.Repeat(plainFrame(data), 100000)
		wantScanned(t, b, slices.Repeat([][]byte{data}, 100000), len(b))
		b[len(b)-1] ^= 1
		wantScanned(t, b, slices.Repeat([][]byte{data}, 99999), 99999*crc.Long(len(data)))
	}
}

func TestScanOfALastFrameCutOff(t *testing.T) {
	ahead := [][]byte{[]byte("one"), nil, []byte("three")}
	b := row(ahead...)
	for _, n := range longs {
		f := plainFrame(noise(uint64(n), n))
		for i := range f {
			if i > 600 && i < len(f)-100 && i%1009 != 0 {
				continue
			}
			wantScanned(t, slices.Concat(b, f[:i]), ahead, len(b))
			wantScanned(t, f[:i], nil, 0)
		}
	}
}

func TestScanLooksAtNothingBehindTheEnd(t *testing.T) {
	b := row([]byte("one"), nil, []byte("three"))
	for i := range b {
		l, n := crc.Scan(slices.Clone(b[:i]))
		wantScanned(t, b[:i], l, n)
	}
}

// spoilt is a frame that stands between others, and is changed where it is.
type spoilt struct {
	b          []byte
	start, end int
	ahead      [][]byte
}

func between(frame []byte) spoilt {
	ahead := [][]byte{[]byte("one"), noise(1, 20)}
	start := row(ahead...)
	return spoilt{slices.Concat(start, frame, plainFrame([]byte("behind"))), len(start), len(start) + len(frame), ahead}
}

// wantRefused checks that the frame is not accepted, and that only those ahead of it are found.
func (s spoilt) wantRefused(t *testing.T, want api.Errno) {
	t.Helper()
	wantError(t, s.b[s.start:s.end], want)
	wantError(t, s.b[s.start:], want)
	wantScanned(t, s.b, s.ahead, s.start)
}

// refusal is the error to which a changed byte at a place of a frame leads.
func refusal(place int) api.Errno {
	if place == 0 {
		return api.ErrForm
	}
	return api.ErrSum
}

func TestEveryOtherByteIsDetected(t *testing.T) {
	for _, n := range shorts {
		for _, data := range [][]byte{noise(uint64(n), n), make([]byte, n), bytes.Repeat([]byte{0xff}, n)} {
			s := between(plainFrame(data))
			number := 1 + len(plainNumber(n))
			for i := s.start; i < s.end; i++ {
				if place := i - s.start; place > 0 && place < number {
					continue
				}
				for k := 1; k < 256; k++ {
					s.b[i] ^= byte(k)
					s.wantRefused(t, refusal(i-s.start))
					s.b[i] ^= byte(k)
				}
			}
		}
	}
}

func TestOtherBytesOfLongFramesAreDetected(t *testing.T) {
	r := rand.New(rand.NewPCG(15, 2))
	for _, n := range longs[len(shorts):] {
		s := between(plainFrame(noise(uint64(n), n)))
		number := 1 + len(plainNumber(n))
		for range 150 {
			i := s.start + number + r.IntN(s.end-s.start-number)
			k := byte(1 + r.IntN(255))
			s.b[i] ^= k
			s.wantRefused(t, refusal(i-s.start))
			s.b[i] ^= k
		}
	}
}

func TestEveryFrameCutOffIsDetected(t *testing.T) {
	for _, n := range longs {
		f := plainFrame(noise(uint64(n), n))
		for i := 1; i < len(f); i++ {
			if i > 600 && i < len(f)-100 && i%1009 != 0 {
				continue
			}
			wantError(t, f[:i], api.ErrShort)
			s := between(f[:i])
			if _, _, e := crc.Take(s.b[s.start:]); e == api.OK {
				t.Errorf("A frame of %d bytes, cut off at %d, and another one behind it, is accepted", n, i)
			}
			wantScanned(t, s.b, s.ahead, s.start)
		}
	}
}

// plainScan is Scan, as the chapter words it.
func plainScan(b []byte) (l [][]byte, size int) {
	for {
		data, rest, e := plainTake(b[size:])
		if e != api.OK {
			return l, size
		}
		l, size = append(l, data), len(b)-len(rest)
	}
}

func TestPseudorandomRows(t *testing.T) {
	r := rand.New(rand.NewPCG(15, 3))
	for range 3000 {
		var b, ahead []byte
		var contents [][]byte
		for range r.IntN(6) {
			data := noise(r.Uint64(), r.IntN(300))
			contents, ahead = append(contents, data), crc.Frame(ahead, data)
		}
		n := r.IntN(300)
		f := crc.Frame(nil, noise(r.Uint64(), n))
		if place := r.IntN(len(f)); place == 0 || place > len(plainNumber(n)) {
			f[place] ^= byte(1 + r.IntN(255))
		} else {
			f = f[:place]
		}
		b = slices.Concat(ahead, f)
		wantScanned(t, b, contents, len(ahead))
		for range r.IntN(3) {
			b = crc.Frame(b, noise(r.Uint64(), r.IntN(300)))
		}
		l, size := plainScan(b)
		wantScanned(t, b, l, size)
		if len(l) != len(contents) {
			t.Errorf("%d frames ahead of what is no frame, not %d", len(l), len(contents))
		}
	}
}

func FuzzScan(f *testing.F) {
	f.Add([]byte("\xa7\x00\x0f\x44\xa7\x6c\xa7\x01\x02ab\x19\xe7\xbe\x2brest"), uint(9), byte(1))
	f.Add([]byte{}, uint(0), byte(0))
	f.Fuzz(func(t *testing.T, b []byte, place uint, k byte) {
		l, size := plainScan(b)
		wantScanned(t, b, l, size)
		s := between(crc.Frame(nil, b))
		number := uint(1 + len(plainNumber(len(b))))
		long := uint(s.end - s.start)
		if at := place % long; k > 0 && (at == 0 || at >= number) && len(b) <= maxData {
			s.b[s.start+int(at)] ^= k
			s.wantRefused(t, refusal(int(at)))
		}
	})
}
