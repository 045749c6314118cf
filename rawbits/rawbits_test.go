package rawbits_test

import (
	"bytes"
	"math"
	"math/rand/v2"
	"slices"
	"testing"

	"wavelet/api"
	"wavelet/rawbits"
)

// filled returns the bytes of a bit string, as the definition says.
func filled(bits []int) []byte {
	var b []byte
	for len(bits) > 0 {
		v := 0
		for i := range 8 {
			v *= 2
			if i < len(bits) {
				v += bits[i]
			}
		}
		b = append(b, byte(v))
		bits = bits[min(8, len(bits)):]
	}
	return b
}

// raw returns the raw segment of a bit string.
func raw(bits []int) []byte {
	b := filled(bits)
	for len(b) > 0 && b[len(b)-1] == 0 {
		b = b[:len(b)-1]
	}
	return b
}

// digits returns the n binary digits of a number.
func digits(v, n int) []int {
	l := make([]int, n)
	for i := range l {
		l[n-1-i] = v >> i % 2
	}
	return l
}

// bitsOf returns the bits of bytes.
func bitsOf(b []byte) []int {
	var l []int
	for _, v := range b {
		l = append(l, digits(int(v), 8)...)
	}
	return l
}

func times(n, bit int) []int { return slices.Repeat([]int{bit}, n) }

// bitStrings calls f for all short bit strings, and for many longer ones with many equal bits at their ends.
func bitStrings(f func(bits []int)) {
	for n := range 12 {
		for v := range 1 << n {
			f(digits(v, n))
		}
	}
	source := rand.New(rand.NewPCG(12, 1))
	for n := range 150 {
		bits := digits(source.IntN(1<<62), n%63)
		for _, zeros := range []int{0, 1, 7, 8, 9, 64, 300} {
			f(slices.Concat(bits, times(zeros, 0)))
			f(slices.Concat(times(zeros, 0), bits))
			f(slices.Concat(times(zeros, 1), bits, times(n, 1)))
		}
	}
	f(slices.Concat(times(100000, 0), []int{1}, times(100000, 0)))
}

// put puts a bit string, and checks the size behind each bit.
func put(t *testing.T, w *rawbits.Writer, bits []int) {
	t.Helper()
	for i, bit := range bits {
		if e := w.Put(bit); e != api.OK {
			t.Fatalf("Put(%d) = %d", bit, e)
		}
		if n := w.Size(); n != i/8+1 {
			t.Fatalf("behind %d bits the size is %d", i+1, n)
		}
	}
}

// terminated terminates a segment, which must be that of a bit string.
func terminated(t *testing.T, w *rawbits.Writer, bits []int) []byte {
	t.Helper()
	b := w.Terminate()
	if want := raw(bits); !bytes.Equal(b, want) {
		t.Fatalf("%v has the segment % x; expected % x", bits, b, want)
	}
	if n := w.Size(); n != 0 {
		t.Fatalf("behind Terminate the size is %d", n)
	}
	return b
}

// segment returns what a new writer makes of a bit string.
func segment(t *testing.T, bits []int) []byte {
	t.Helper()
	w := rawbits.NewWriter()
	put(t, w, bits)
	return terminated(t, w, bits)
}

// expectBits gets bits from a reader that has got so many.
func expectBits(t *testing.T, r *rawbits.Reader, at int, bits []int) {
	t.Helper()
	for i, want := range bits {
		if n := r.At(); n != at+i {
			t.Fatalf("At returned %d behind %d bits", n, at+i)
		}
		if bit := r.Get(); bit != want {
			t.Fatalf("the bit %d is %d; expected %d", at+i, bit, want)
		}
	}
	for range 2 {
		if n := r.At(); n != at+len(bits) {
			t.Fatalf("At returned %d behind %d bits", n, at+len(bits))
		}
	}
}

func noBits() []int {
	return []int{math.MinInt, -256, -2, -1, 2, 3, 256, 257, 1 << 32, 1<<32 + 1, math.MaxInt}
}

// P12.1
func TestNewWriterIsEmpty(t *testing.T) {
	w := rawbits.NewWriter()
	if n := w.Size(); n != 0 {
		t.Errorf("a new writer has the size %d", n)
	}
	for range 3 {
		terminated(t, w, nil)
	}
	if rawbits.NewWriter() == rawbits.NewWriter() {
		t.Error("two writers are the same")
	}
}

// P12.1, P12.5
func TestSegmentsFollowTheDefinition(t *testing.T) {
	bitStrings(func(bits []int) {
		b := segment(t, bits)
		if len(b) > (len(bits)+7)/8 || len(b) > 0 && b[len(b)-1] == 0 {
			t.Fatalf("%v has the segment % x", bits, b)
		}
	})
}

// P12.1: what a segment contains does not depend on the preceding ones.
func TestFurtherSegments(t *testing.T) {
	w := rawbits.NewWriter()
	bitStrings(func(bits []int) {
		put(t, w, bits)
		terminated(t, w, bits)
	})
}

// P12.1: a writer is unchanged by an error.
func TestErrorsOfPut(t *testing.T) {
	source := rand.New(rand.NewPCG(12, 2))
	for n := range 40 {
		bits := digits(source.IntN(1<<40), n)
		w := rawbits.NewWriter()
		for i := range n + 1 {
			for _, bit := range noBits() {
				if e := w.Put(bit); e != api.ErrRange {
					t.Errorf("Put(%d) = %d; expected ErrRange", bit, e)
				}
			}
			if size := w.Size(); size != (i+7)/8 {
				t.Errorf("behind %d bits and errors the size is %d", i, size)
			}
			if i < n {
				w.Put(bits[i])
			}
		}
		terminated(t, w, bits)
	}
}

// P12.1, rule R6
func TestSegmentsShareNoMemory(t *testing.T) {
	bitStrings(func(bits []int) {
		w := rawbits.NewWriter()
		put(t, w, bits)
		first := terminated(t, w, bits)
		for i := range first {
			first[i] ^= 0x55
		}
		_ = append(first, 0x55, 0x55)
		put(t, w, bits)
		_ = append(first, 0xAA, 0xAA)
		second := terminated(t, w, bits)
		for i := range second {
			second[i] = 0
		}
		for i, v := range raw(bits) {
			if first[i] != v^0x55 {
				t.Fatalf("the segment of %v changed behind it", bits)
			}
		}
	})
}

// byteSlices calls f for all slices of at most two bytes, and for some longer ones.
func byteSlices(f func(b []byte)) {
	f(nil)
	f([]byte{})
	for first := range 256 {
		f([]byte{byte(first)})
		for second := range 256 {
			f([]byte{byte(first), byte(second)})
		}
	}
	for _, n := range []int{3, 31, 1000} {
		f(make([]byte, n))
		f(bytes.Repeat([]byte{0xFF}, n))
		f(bytes.Repeat([]byte{0x12, 0x80, 0}, n))
	}
}

// P12.2: zero bytes at the end are bytes too, and the end need not be that of a segment.
func TestReadersGetTheBits(t *testing.T) {
	byteSlices(func(b []byte) {
		r := rawbits.NewReader(b)
		expectBits(t, r, 0, bitsOf(b))
		expectBits(t, r, 8*len(b), times(70, 0))
	})
}

// P12.2: bits beyond the end are 0, also if the memory goes on.
func TestReadersEndWithTheirBytes(t *testing.T) {
	memory := bytes.Repeat([]byte{0xFF}, 40)
	for n := range 10 {
		expectBits(t, rawbits.NewReader(memory[:n]), 0, append(times(8*n, 1), times(300, 0)...))
	}
}

// P12.2, rule R6
func TestNewReaderCopiesItsBytes(t *testing.T) {
	memory := []byte{0xA5, 0x3C, 0xFF, 0xFF}
	r := rawbits.NewReader(memory[:2])
	other := rawbits.NewReader(memory[:2])
	want := bitsOf([]byte{0xA5, 0x3C, 0})
	expectBits(t, other, 0, want)
	expectBits(t, r, 0, want[:3])
	if !bytes.Equal(memory, []byte{0xA5, 0x3C, 0xFF, 0xFF}) {
		t.Errorf("the bytes became % x", memory)
	}
	for i := range memory {
		memory[i] ^= 0xFF
	}
	expectBits(t, r, 3, want[3:])
}

// P12.3
func TestReadersGetWhatWasPut(t *testing.T) {
	bitStrings(func(bits []int) {
		r := rawbits.NewReader(segment(t, bits))
		expectBits(t, r, 0, bits)
		expectBits(t, r, len(bits), times(80, 0))
	})
}

// P12.4: behind every cut, with other bytes in place of those that were cut off.
func TestSizesSuffice(t *testing.T) {
	bitStrings(func(bits []int) {
		w := rawbits.NewWriter()
		sizes := []int{w.Size()}
		for _, bit := range bits {
			w.Put(bit)
			sizes = append(sizes, w.Size())
		}
		b := w.Terminate()
		for n := 0; n <= len(bits); n += 1 + len(bits)/100 {
			for _, more := range [][]byte{nil, {0}, {0xFF, 0xFF}, {0xA5}} {
				cut := b
				if len(b) > sizes[n] {
					cut = slices.Concat(b[:sizes[n]], more)
				}
				expectBits(t, rawbits.NewReader(cut), 0, bits[:n])
			}
		}
	})
}

// P12.4: the sizes are no greater than they need be.
func TestSmallerSizesDoNotSuffice(t *testing.T) {
	for n := 1; n < 100; n++ {
		w := rawbits.NewWriter()
		put(t, w, times(n, 1))
		size := w.Size()
		b := terminated(t, w, times(n, 1))
		r := rawbits.NewReader(b[:size-1])
		for range n - 1 {
			r.Get()
		}
		if r.Get() != 0 {
			t.Errorf("%d bits 1 have the size %d, but %d suffice", n, size, size-1)
		}
	}
}

// Rule R7
func TestWritersThatNewWriterDidNotReturn(t *testing.T) {
	bits := []int{1, 0, 1, 1, 0, 0, 1, 0, 1, 1}
	original := rawbits.NewWriter()
	put(t, original, bits)
	duplicate := *original
	for name, w := range map[string]*rawbits.Writer{"nil": nil, "zero": {}, "copied": &duplicate} {
		for _, bit := range append(noBits(), 0, 1) {
			if e := w.Put(bit); e != api.ErrState {
				t.Errorf("%s: Put(%d) = %d", name, bit, e)
			}
		}
		for range 2 {
			if n, b := w.Size(), w.Terminate(); n != 0 || len(b) != 0 {
				t.Errorf("%s: size %d, segment % x", name, n, b)
			}
		}
	}
	if n := original.Size(); n != 2 {
		t.Errorf("the size of the original became %d", n)
	}
	terminated(t, original, bits)
}

// Rule R7
func TestReadersThatNewReaderDidNotReturn(t *testing.T) {
	original := rawbits.NewReader([]byte{0xFF, 0xFF})
	expectBits(t, original, 0, []int{1, 1, 1})
	duplicate := *original
	for name, r := range map[string]*rawbits.Reader{"nil": nil, "zero": {}, "copied": &duplicate} {
		for range 2 {
			if n, bit := r.At(), r.Get(); n != 0 || bit != 0 {
				t.Errorf("%s: At = %d, Get = %d", name, n, bit)
			}
		}
	}
	expectBits(t, original, 3, append(times(13, 1), 0))
}

// The examples of the chapter.
func TestExamples(t *testing.T) {
	for _, c := range []struct {
		bits []int
		size int
		want []byte
	}{
		{[]int{1, 0, 1}, 1, []byte{0xA0}},
		{times(9, 0), 2, nil},
		{append([]int{1}, times(8, 0)...), 2, []byte{0x80}},
	} {
		w := rawbits.NewWriter()
		put(t, w, c.bits)
		if n := w.Size(); n != c.size {
			t.Errorf("%v has the size %d; expected %d", c.bits, n, c.size)
		}
		if b := terminated(t, w, c.bits); !bytes.Equal(b, c.want) {
			t.Errorf("%v has the segment % x; expected % x", c.bits, b, c.want)
		}
	}
}
