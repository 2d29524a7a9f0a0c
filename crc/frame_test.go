package crc_test

import (
	"bytes"
	"encoding/binary"
	"math"
	"slices"
	"testing"

	"consistory/api"
	"consistory/crc"
	"consistory/octet"
)

// maxData is the number of bytes above which Take accepts no frame.
const maxData = 100000

// longs are numbers of bytes of contents, around those at which the encoding of the number gets longer.
var longs = []int{0, 1, 2, 3, 127, 128, 255, 256, 257, 1000, 65535, 65536, 65537, 99999, maxData}

// shorts are those of them with which every place and every byte can be tried.
var shorts = longs[:9]

// plainNumber is the encoding of a number, as chapter 1 words it.
func plainNumber(n int) []byte {
	var b []byte
	for ; n > 0; n /= 256 {
		b = append([]byte{byte(n % 256)}, b...)
	}
	return append([]byte{byte(len(b))}, b...)
}

// plainFrame is a frame, as the chapter words it.
func plainFrame(data []byte) []byte {
	b := slices.Concat([]byte{167}, plainNumber(len(data)), data)
	return binary.BigEndian.AppendUint32(b, plainSum(b))
}

// plainTake is Take, as the chapter words it.
func plainTake(b []byte) (data, rest []byte, e api.Errno) {
	if len(b) == 0 {
		return nil, nil, api.ErrShort
	}
	if b[0] != 167 {
		return nil, nil, api.ErrForm
	}
	n, rest, e := octet.Take(b[1:])
	if e != api.OK {
		return nil, nil, e
	}
	if n > maxData {
		return nil, nil, api.ErrLarge
	}
	if uint64(len(rest)) < n+4 {
		return nil, nil, api.ErrShort
	}
	if plainSum(b[:len(b)-len(rest)+int(n)]) != binary.BigEndian.Uint32(rest[n:]) {
		return nil, nil, api.ErrSum
	}
	return rest[:n], rest[n+4:], api.OK
}

func wantTaken(t *testing.T, b, data, rest []byte) {
	t.Helper()
	d, r, e := crc.Take(b)
	if !bytes.Equal(d, data) || !bytes.Equal(r, rest) || e != api.OK {
		t.Errorf("Take(%.40q) of %d bytes: %.40q of %d bytes, %d bytes left, error %d", b, len(b), d, len(d), len(r), e)
	}
}

func wantError(t *testing.T, b []byte, want api.Errno) {
	t.Helper()
	d, r, e := crc.Take(b)
	if e != want || len(d) != 0 || len(r) != 0 {
		t.Errorf("Take(%.40q) of %d bytes: %.40q, %d bytes left, error %d, not %d", b, len(b), d, len(r), e, want)
	}
}

func TestFrameWrittenOut(t *testing.T) {
	for _, c := range []struct{ b, data, want string }{
		{"", "", "\xa7\x00\x0f\x44\xa7\x6c"},
		{"", "a", "\xa7\x01\x01a\xf1\xac\x34\xd1"},
		{"", "ab", "\xa7\x01\x02ab\x19\xe7\xbe\x2b"},
		{"x", "ab", "x\xa7\x01\x02ab\x19\xe7\xbe\x2b"},
		{"\xa7\x00\x0f\x44\xa7\x6c", "", "\xa7\x00\x0f\x44\xa7\x6c\xa7\x00\x0f\x44\xa7\x6c"},
	} {
		if f := crc.Frame([]byte(c.b), []byte(c.data)); string(f) != c.want {
			t.Errorf("Frame(%q, %q) = %q, not %q", c.b, c.data, f, c.want)
		}
	}
	if f := crc.Frame(nil, nil); string(f) != "\xa7\x00\x0f\x44\xa7\x6c" {
		t.Errorf("Frame(nil, nil) = %q", f)
	}
}

func TestFrameBehindBytes(t *testing.T) {
	for _, n := range longs {
		data := noise(uint64(n), n)
		want := plainFrame(data)
		for _, b := range [][]byte{nil, {}, {167}, []byte("some bytes"), plainFrame(noise(3, 300))} {
			whole, part := within(b)
			before := slices.Clone(whole)
			for _, given := range [][]byte{b, part} {
				if f := crc.Frame(given, data); !bytes.Equal(f, slices.Concat(b, want)) {
					t.Errorf("Frame of %d bytes behind %d bytes: %.60q", n, len(b), f)
				}
			}
			if !bytes.Equal(whole, before) {
				t.Errorf("Frame of %d bytes changed what stands behind %d bytes", n, len(b))
			}
		}
		if !bytes.Equal(data, noise(uint64(n), n)) {
			t.Errorf("Frame changed the %d bytes", n)
		}
	}
}

func TestFrameOfTheBytesAhead(t *testing.T) {
	b := noise(4, 90)
	for _, c := range []struct{ ahead, data []byte }{{b, b}, {b[:3], b}, {b, b[3:]}, {b[:40], b[40:]}, {b[:40], b[30:50]}} {
		want := slices.Concat(c.ahead, plainFrame(c.data))
		if f := crc.Frame(c.ahead, c.data); !bytes.Equal(f, want) {
			t.Errorf("%x, not %x", f, want)
		}
		if !bytes.Equal(b, noise(4, 90)) {
			t.Fatal("Frame changed what it was given")
		}
	}
}

func TestFrameOfTooManyBytes(t *testing.T) {
	for _, n := range []int{maxData + 1, 1 << 17, 1 << 24} {
		data := noise(uint64(n), n)
		f := crc.Frame(nil, data)
		if !bytes.Equal(f, plainFrame(data)) || crc.Long(n) != len(f) {
			t.Errorf("Frame of %d bytes has %d bytes, and %d by Long", n, len(f), crc.Long(n))
		}
		wantError(t, f, api.ErrLarge)
	}
}

func TestLong(t *testing.T) {
	for n, want := range map[int]int{
		math.MinInt: 6, -256: 6, -1: 6, 0: 6, 1: 8, 2: 9, 255: 262, 256: 264, 65535: 65543, 65536: 65545,
		1<<24 - 1: 1<<24 + 8, 1 << 24: 1<<24 + 10, 1<<32 - 1: 1<<32 + 9, 1 << 32: 1<<32 + 11,
		1<<40 - 1: 1<<40 + 10, 1 << 40: 1<<40 + 12, 1<<48 - 1: 1<<48 + 11, 1 << 48: 1<<48 + 13,
		1<<56 - 1: 1<<56 + 12, 1 << 56: 1<<56 + 14, math.MaxInt - 14: math.MaxInt,
		// The sum wraps around.
		math.MaxInt - 13: math.MinInt, math.MaxInt: math.MinInt + 13,
	} {
		if l := crc.Long(n); l != want {
			t.Errorf("Long(%d) = %d, not %d", n, l, want)
		}
	}
	for n := range 2000 {
		if f := crc.Frame(nil, make([]byte, n)); crc.Long(n) != len(f) {
			t.Errorf("Long(%d) = %d, but the frame has %d bytes", n, crc.Long(n), len(f))
		}
	}
	for _, n := range longs {
		if f := crc.Frame(nil, noise(1, n)); crc.Long(n) != len(f) {
			t.Errorf("Long(%d) = %d, but the frame has %d bytes", n, crc.Long(n), len(f))
		}
	}
}

func TestTakeAndWhatIsLeft(t *testing.T) {
	for _, n := range longs {
		data := noise(uint64(n), n)
		for _, rest := range [][]byte{nil, {0}, {167}, []byte("more"), make([]byte, 300), plainFrame([]byte("next"))} {
			wantTaken(t, append(crc.Frame(nil, data), rest...), data, rest)
			wantTaken(t, append(plainFrame(data), rest...), data, rest)
		}
	}
	for _, data := range someBytes() {
		wantTaken(t, crc.Frame(nil, data), data, nil)
		// What looks like a frame within a frame is only bytes.
		wantTaken(t, crc.Frame(nil, crc.Frame(nil, data)), plainFrame(data), nil)
	}
}

func TestTakeErrors(t *testing.T) {
	for s, want := range map[string]api.Errno{
		"": api.ErrShort,
		// The first byte is not 167, whatever is wrong behind it.
		"\x00":                      api.ErrForm,
		"\xa6":                      api.ErrForm,
		"\xa8":                      api.ErrForm,
		"\xa6\x09":                  api.ErrForm,
		"\x27\x03\x01\x86\xa1":      api.ErrForm,
		"\xa6\x01\x02ab":            api.ErrForm,
		"x\xa7\x00\x0f\x44\xa7\x6c": api.ErrForm,
		// The number: missing, above 8 bytes, a first byte 0, cut off.
		"\xa7":     api.ErrShort,
		"\xa7\x09": api.ErrForm,
		"\xa7\x09\x01\x02\x03\x04\x05\x06\x07\x08\x09": api.ErrForm,
		"\xa7\xa7":                             api.ErrForm,
		"\xa7\xff\x01":                         api.ErrForm,
		"\xa7\x01\x00":                         api.ErrForm,
		"\xa7\x01\x00\x0f\x44\xa7\x6c":         api.ErrForm,
		"\xa7\x02\x00":                         api.ErrForm,
		"\xa7\x02\x00\x02ab":                   api.ErrForm,
		"\xa7\x08\x00\x86\xa1":                 api.ErrForm,
		"\xa7\x01":                             api.ErrShort,
		"\xa7\x02\x01":                         api.ErrShort,
		"\xa7\x03\x01\x86":                     api.ErrShort,
		"\xa7\x08\xff\xff\xff\xff\xff\xff\xff": api.ErrShort,
		// Above 100000, whatever is there.
		"\xa7\x03\x01\x86\xa1":                         api.ErrLarge,
		"\xa7\x03\x01\x86\xa1abcd":                     api.ErrLarge,
		"\xa7\x03\x02\x00\x00":                         api.ErrLarge,
		"\xa7\x04\x01\x00\x00\x00":                     api.ErrLarge,
		"\xa7\x05\x01\x00\x00\x00\x00":                 api.ErrLarge,
		"\xa7\x08\x01\x00\x00\x00\x00\x00\x00\x02ab":   api.ErrLarge,
		"\xa7\x08\x7f\xff\xff\xff\xff\xff\xff\xff":     api.ErrLarge,
		"\xa7\x08\x80\x00\x00\x00\x00\x00\x00\x00":     api.ErrLarge,
		"\xa7\x08\xff\xff\xff\xff\xff\xff\xff\xff":     api.ErrLarge,
		"\xa7\x08\xff\xff\xff\xff\xff\xff\xff\xfcabcd": api.ErrLarge,
		// The bytes or the checksum are not there.
		"\xa7\x03\x01\x86\xa0":           api.ErrShort,
		"\xa7\x03\x01\x86\xa0abcd":       api.ErrShort,
		"\xa7\x00":                       api.ErrShort,
		"\xa7\x00\xff\xff\xff":           api.ErrShort,
		"\xa7\x01\x01a":                  api.ErrShort,
		"\xa7\x01\x02ab\xff\xff\xff":     api.ErrShort,
		"\xa7\x01\x03ab\x19\xe7\xbe\x2b": api.ErrShort,
		// The checksum: another one, one in the other order, one of the contents alone.
		"\xa7\x00\x00\x00\x00\x00":       api.ErrSum,
		"\xa7\x00\x6c\xa7\x44\x0f":       api.ErrSum,
		"\xa7\x01\x01a\xc1\xd0\x43\x30":  api.ErrSum,
		"\xa7\x01\x02ab\x19\xe7\xbe\x2a": api.ErrSum,
		"\xa7\x01\x01ab\x19\xe7\xbe\x2b": api.ErrSum,
	} {
		wantError(t, []byte(s), want)
	}
	wantError(t, nil, api.ErrShort)
}

func TestTakeOfNoMarker(t *testing.T) {
	for i := range 256 {
		if i == 167 {
			continue
		}
		wantError(t, []byte{byte(i)}, api.ErrForm)
		f := plainFrame([]byte("ab"))
		f[0] = byte(i)
		wantError(t, f, api.ErrForm)
		// The checksum of that first byte does not make a frame of it.
		wantError(t, binary.BigEndian.AppendUint32(f[:5], plainSum(f[:5])), api.ErrForm)
	}
}

func TestTakeAtTheLimit(t *testing.T) {
	for n, want := range map[int]api.Errno{maxData - 1: api.OK, maxData: api.OK, maxData + 1: api.ErrLarge, maxData + 2: api.ErrLarge} {
		data := noise(uint64(n), n)
		f := plainFrame(data)
		if want == api.OK {
			wantTaken(t, f, data, nil)
			wantError(t, f[:len(f)-1], api.ErrShort)
			f[len(f)-1] ^= 1
			wantError(t, f, api.ErrSum)
			continue
		}
		for _, k := range []int{5, 6, n, len(f) - 1, len(f)} {
			wantError(t, f[:k], want)
		}
	}
}

func TestTakeOfEveryCut(t *testing.T) {
	for _, n := range longs {
		f := plainFrame(noise(uint64(n), n))
		for i := range f {
			// What is cut off still stands behind the end.
			wantError(t, f[:i], api.ErrShort)
		}
	}
}

func TestTakeOfAnotherSum(t *testing.T) {
	for _, n := range longs {
		f := plainFrame(noise(uint64(n), n))
		many := 255
		if n > 1000 {
			many = 8
		}
		for i := len(f) - 4; i < len(f); i++ {
			for k := range many {
				f[i] ^= byte(255 - k)
				wantError(t, f, api.ErrSum)
				f[i] ^= byte(255 - k)
			}
		}
	}
}

// scribble changes bytes, and what room there is behind their end.
func scribble(b []byte) {
	_ = append(b, "more"...)
	whole := b[:cap(b)]
	for i := range whole {
		whole[i] ^= 0xff
	}
}

func TestFramesAreMemoryOfTheirOwn(t *testing.T) {
	next := plainFrame([]byte("next"))
	for name, call := range map[string]func(b []byte) [][]byte{
		"Frame behind": func(b []byte) [][]byte { return [][]byte{crc.Frame(b, []byte("data"))} },
		"Frame of":     func(b []byte) [][]byte { return [][]byte{crc.Frame(nil, b)} },
		"Take":         func(b []byte) [][]byte { data, rest, _ := crc.Take(b); return [][]byte{data, rest} },
		"Scan":         func(b []byte) [][]byte { l, _ := crc.Scan(b); return l },
	} {
		for _, b := range [][]byte{nil, {167}, next, slices.Concat(plainFrame(nil), next), slices.Concat(next, plainFrame(noise(1, 300)), next, []byte("rest"))} {
			want := call(slices.Clone(b))
			whole, part := within(b)
			before := slices.Clone(whole)
			for i := range want {
				got := call(part)
				scribble(got[i])
				for k := range got {
					if k != i && !bytes.Equal(got[k], want[k]) {
						t.Errorf("%s %q: part %d changes with part %d", name, b, k, i)
					}
				}
			}
			if !bytes.Equal(whole, before) {
				t.Errorf("%s %q changes what it was given, or returns memory of it", name, b)
			}
			got := call(part)
			clear(whole)
			if !slices.EqualFunc(got, want, bytes.Equal) {
				t.Errorf("%s %q: what is returned changes with what was given", name, b)
			}
		}
	}
}

func FuzzTake(f *testing.F) {
	f.Add([]byte("\xa7\x01\x02ab\x19\xe7\xbe\x2brest"))
	f.Add([]byte("\xa7\x08\xff\xff\xff\xff\xff\xff\xff\xff\x00"))
	f.Fuzz(func(t *testing.T, b []byte) {
		if len(b) <= maxData {
			wantTaken(t, append(crc.Frame(nil, b), b...), b, b)
		}
		data, rest, e := plainTake(b)
		if e != api.OK {
			wantError(t, b, e)
			return
		}
		wantTaken(t, b, data, rest)
		if again := append(crc.Frame(nil, data), rest...); !bytes.Equal(again, b) {
			t.Errorf("Take(%q) is that of %q", b, again)
		}
	})
}
