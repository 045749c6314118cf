package bitio_test

import (
	"bytes"
	"math"
	"math/rand/v2"
	"slices"
	"testing"

	"wavelet/api"
	"wavelet/bitio"
)

// encoded follows the definition of the encoding of a bit string.
func encoded(bits []int) []byte {
	var b []byte
	for len(bits) > 0 {
		width := 8
		if len(b) > 0 && b[len(b)-1] == 0xFF {
			width = 7
		}
		v := 0
		for i := range width {
			v *= 2
			if i < len(bits) {
				v += bits[i]
			}
		}
		b = append(b, byte(v))
		bits = bits[min(width, len(bits)):]
	}
	if len(b) > 0 && b[len(b)-1] == 0xFF {
		b = append(b, 0)
	}
	return b
}

// readable returns the bits that Get returns one after the other, and the error behind them.
func readable(b []byte) ([]int, api.Errno) {
	var l []int
	for i, v := range b {
		first := 7
		if i > 0 && b[i-1] == 0xFF {
			if v >= 0x80 {
				return l, api.ErrSyntax
			}
			first = 6
		}
		for k := first; k >= 0; k-- {
			l = append(l, int(v)>>k%2)
		}
	}
	return l, api.ErrTruncated
}

// aligned returns what Align returns once so many of the readable bits have been read.
func aligned(b []byte, read int) (int, api.Errno) {
	if read == 0 {
		return 0, api.OK
	}
	n := 0
	for last := 0; last < read; n++ {
		last += 8
		if n > 0 && b[n-1] == 0xFF {
			last--
		}
		for rest := range max(0, last-read) {
			if b[n]>>rest%2 == 1 {
				return 0, api.ErrSyntax
			}
		}
	}
	switch {
	case b[n-1] != 0xFF:
		return n, api.OK
	case n == len(b):
		return 0, api.ErrTruncated
	case b[n] != 0:
		return 0, api.ErrSyntax
	}
	return n + 1, api.OK
}

// digits returns the n binary digits of a number.
func digits(v, n int) []int {
	l := make([]int, n)
	for i := range l {
		l[n-1-i] = v % 2
		v /= 2
	}
	return l
}

func times(n, bit int) []int { return slices.Repeat([]int{bit}, n) }

func gamma(v int) []int {
	k := 0
	for v>>(k+1) > 0 {
		k++
	}
	return append(times(k, 0), digits(v, k+1)...)
}

func unary(v int) []int { return append(times(v, 1), 0) }

// written returns a writer with a bit string that was put bit by bit.
func written(t *testing.T, bits []int) *bitio.Writer {
	t.Helper()
	w := bitio.NewWriter()
	for _, bit := range bits {
		if e := w.Put(bit); e != api.OK {
			t.Fatalf("Put(%d) = %d", bit, e)
		}
	}
	return w
}

// expectBits compares what a writer contains with a bit string.
func expectBits(t *testing.T, w *bitio.Writer, bits []int) {
	t.Helper()
	if w.Len() != len(bits) || !bytes.Equal(w.Bytes(), encoded(bits)) {
		t.Errorf("the writer has %d bits, % x; expected %d bits, % x", w.Len(), w.Bytes(), len(bits), encoded(bits))
	}
}

// strings calls f for all bit strings of at most n bits.
func strings(n int, f func(bits []int)) {
	for length := range n + 1 {
		for v := range 1 << length {
			f(digits(v, length))
		}
	}
}

// mostlyOnes returns a random bit string with many bytes 0xFF.
func mostlyOnes(source *rand.Rand, n int) []int {
	l := times(n, 1)
	for range source.IntN(1 + n/8) {
		l[source.IntN(n)] = 0
	}
	return l
}

// slicesOf calls f for all slices of at most two bytes, and for many longer ones.
func slicesOf(f func(b []byte)) {
	f(nil)
	for first := range 256 {
		f([]byte{byte(first)})
		for second := range 256 {
			f([]byte{byte(first), byte(second)})
		}
	}
	some := []byte{0, 1, 0x40, 0x7E, 0x7F, 0x80, 0x81, 0xF0, 0xFE, 0xFF}
	for n := range 10000 {
		f([]byte{some[n/1000], some[n/100%10], some[n/10%10], some[n%10]})
	}
	source := rand.New(rand.NewPCG(9, 9))
	for n := range 500 {
		b := make([]byte, 3+n/10)
		for i := range b {
			b[i] = some[source.IntN(len(some))]
		}
		f(b)
	}
}

// P9.1
func TestNewWriterIsEmpty(t *testing.T) {
	v, w := bitio.NewWriter(), bitio.NewWriter()
	expectBits(t, v, nil)
	if e := v.Put(1); e != api.OK {
		t.Errorf("Put(1) = %d", e)
	}
	expectBits(t, v, []int{1})
	expectBits(t, w, nil)
}

// P9.1, P9.2
func TestPutAppendsABit(t *testing.T) {
	strings(17, func(bits []int) { expectBits(t, written(t, bits), bits) })
	source := rand.New(rand.NewPCG(1, 1))
	for n := 1; n < 300; n++ {
		bits := mostlyOnes(source, n)
		expectBits(t, written(t, bits), bits)
		expectBits(t, written(t, times(n, 1)), times(n, 1))
		expectBits(t, written(t, times(n, 0)), times(n, 0))
	}
}

// P9.1
func TestPutRefusesOtherNumbers(t *testing.T) {
	w := written(t, times(8, 1))
	for _, bit := range []int{math.MinInt, -256, -2, -1, 2, 3, 255, 256, 257, 1 << 32, 1<<32 + 1, math.MaxInt} {
		if e := w.Put(bit); e != api.ErrArg {
			t.Errorf("Put(%d) = %d; expected ErrArg", bit, e)
		}
	}
	expectBits(t, w, times(8, 1))
}

// P9.1
func TestBitsAppendsDigits(t *testing.T) {
	w, want := bitio.NewWriter(), []int(nil)
	put := func(v, n int) {
		t.Helper()
		if e := w.Bits(v, n); e != api.OK {
			t.Errorf("Bits(%d, %d) = %d", v, n, e)
		}
		want = append(want, digits(v, n)...)
	}
	for n := range 8 {
		for v := range 1 << n {
			put(v, n)
		}
	}
	for n := range 33 {
		for _, v := range []int{0, 1<<n - 1, 1 << n / 2, 0x5A5A5A5A % (1 << n)} {
			put(v, n)
		}
	}
	expectBits(t, w, want)
}

// P9.1
func TestBitsRefusesNumbersOutOfRange(t *testing.T) {
	w := written(t, []int{1})
	for _, n := range []int{math.MinInt, -64, -1, 33, 34, 62, 63, 64, 65, math.MaxInt} {
		for _, v := range []int{math.MinInt, -1, 0, 1, math.MaxInt} {
			if e := w.Bits(v, n); e != api.ErrArg {
				t.Errorf("Bits(%d, %d) = %d; expected ErrArg", v, n, e)
			}
		}
	}
	for n := range 33 {
		for _, v := range []int{math.MinInt, -1 << n, -1, 1 << n, 1<<n + 1, 1 << 33, math.MaxInt} {
			if e := w.Bits(v, n); e != api.ErrArg {
				t.Errorf("Bits(%d, %d) = %d; expected ErrArg", v, n, e)
			}
		}
	}
	expectBits(t, w, []int{1})
}

// gammas are numbers that have a gamma code, noGammas have none.
func gammas() []int {
	var l []int
	for v := range 70 {
		l = append(l, v+1)
	}
	for k := 6; k <= 32; k++ {
		l = append(l, 1<<k-1, 1<<(k-1)+1, 1<<(k-1))
	}
	return l
}

var noGammas = []int{math.MinInt, -1 << 32, -1, 0, 1 << 32, 1<<32 + 1, math.MaxInt}

// P9.1
func TestGammaAppendsItsCode(t *testing.T) {
	w, want := bitio.NewWriter(), []int(nil)
	for _, v := range gammas() {
		if e := w.Gamma(v); e != api.OK {
			t.Errorf("Gamma(%d) = %d", v, e)
		}
		want = append(want, gamma(v)...)
	}
	expectBits(t, w, want)
	for _, v := range noGammas {
		if e := w.Gamma(v); e != api.ErrArg {
			t.Errorf("Gamma(%d) = %d; expected ErrArg", v, e)
		}
	}
	expectBits(t, w, want)
}

// noUnaries are numbers that have no unary code.
var noUnaries = []int{math.MinInt, -65535, -1, 65536, 65537, 1 << 32, math.MaxInt}

// P9.1
func TestUnaryAppendsItsCode(t *testing.T) {
	w, want := bitio.NewWriter(), []int(nil)
	for _, v := range []int{0, 1, 2, 3, 6, 7, 8, 15, 16, 100, 65534, 65535} {
		if e := w.Unary(v); e != api.OK {
			t.Errorf("Unary(%d) = %d", v, e)
		}
		want = append(want, unary(v)...)
	}
	expectBits(t, w, want)
	for _, v := range noUnaries {
		if e := w.Unary(v); e != api.ErrArg {
			t.Errorf("Unary(%d) = %d; expected ErrArg", v, e)
		}
	}
	expectBits(t, w, want)
}

// P9.2
func TestBytesDoesNotChangeTheWriter(t *testing.T) {
	source := rand.New(rand.NewPCG(2, 2))
	for range 50 {
		bits := mostlyOnes(source, 60)
		w := bitio.NewWriter()
		for i, bit := range bits {
			if e := w.Put(bit); e != api.OK {
				t.Fatalf("Put(%d) = %d", bit, e)
			}
			expectBits(t, w, bits[:i+1])
			expectBits(t, w, bits[:i+1])
		}
	}
}

// P9.2, rule R6
func TestBytesSharesNoMemory(t *testing.T) {
	strings(9, func(bits []int) {
		w := written(t, bits)
		first, second := w.Bytes(), w.Bytes()
		if len(first) != cap(first) {
			t.Errorf("Bytes of %v returned %d bytes with the capacity %d", bits, len(first), cap(first))
		}
		for i := range first {
			first[i] ^= 0x55
		}
		_ = append(first, 0x55)
		if !bytes.Equal(second, encoded(bits)) {
			t.Errorf("two results of Bytes of %v share memory", bits)
		}
		expectBits(t, w, bits)
		if e := w.Put(1); e != api.OK {
			t.Errorf("Put(1) = %d", e)
		}
		if !bytes.Equal(second, encoded(bits)) {
			t.Errorf("Put behind %v changed a result of Bytes", bits)
		}
	})
}

// expectRest reads all further bits of a reader of b, of whose bits so many have been read.
func expectRest(t *testing.T, r *bitio.Reader, b []byte, read int) {
	t.Helper()
	bits, last := readable(b)
	for i, want := range bits[read:] {
		if bit, e := r.Get(); bit != want || e != api.OK {
			t.Fatalf("Get of the bit %d of % x = %d, %d; expected %d", read+i, b, bit, e, want)
		}
	}
	for range 2 {
		if bit, e := r.Get(); bit != 0 || e != last {
			t.Fatalf("Get behind the bits of % x = %d, %d; expected the error %d", b, bit, e, last)
		}
	}
}

// P9.3
func TestGetReturnsTheBits(t *testing.T) {
	slicesOf(func(b []byte) { expectRest(t, bitio.NewReader(b), b, 0) })
}

// P9.3, rule R6
func TestNewReaderCopiesItsBytes(t *testing.T) {
	memory := []byte{0xA0, 0xFF, 0x12, 0x34}
	r := bitio.NewReader(memory[:2])
	s := bitio.NewReader(memory[:2])
	memory[0], memory[1] = 0, 0
	expectRest(t, r, []byte{0xA0, 0xFF}, 0)
	if v, e := s.Bits(16); v != 0xA0FF || e != api.OK {
		t.Errorf("a reader changed with the bytes or with another reader: Bits(16) = %x, %d", v, e)
	}
	if !bytes.Equal(memory, []byte{0, 0, 0x12, 0x34}) {
		t.Errorf("the bytes became % x", memory)
	}
}

// reading is a method of a reader, and what it does with the bits: how many it reads, and what it returns.
type reading struct {
	name   string
	read   func(r *bitio.Reader) (int, api.Errno)
	expect func(bits []int, last api.Errno) (v, n int, e api.Errno)
}

func readBits(n int) reading {
	read := func(r *bitio.Reader) (int, api.Errno) { return r.Bits(n) }
	return reading{"Bits", read, func(bits []int, last api.Errno) (int, int, api.Errno) {
		if len(bits) < n {
			return 0, 0, last
		}
		return number(bits[:n]), n, api.OK
	}}
}

func readGamma() reading {
	read := func(r *bitio.Reader) (int, api.Errno) { return r.Gamma() }
	return reading{"Gamma", read, func(bits []int, last api.Errno) (int, int, api.Errno) {
		k := slices.Index(bits, 1)
		switch {
		case k >= 32 || k < 0 && len(bits) >= 32:
			return 0, 0, api.ErrSyntax
		case k < 0 || len(bits) < 2*k+1:
			return 0, 0, last
		}
		return number(bits[:2*k+1]), 2*k + 1, api.OK
	}}
}

func readUnary(most int) reading {
	read := func(r *bitio.Reader) (int, api.Errno) { return r.Unary(most) }
	return reading{"Unary", read, func(bits []int, last api.Errno) (int, int, api.Errno) {
		k := slices.Index(bits, 0)
		switch {
		case k > most || k < 0 && len(bits) > most:
			return 0, 0, api.ErrSyntax
		case k < 0:
			return 0, 0, last
		}
		return k, k + 1, api.OK
	}}
}

// number returns the number with these binary digits.
func number(bits []int) int {
	v := 0
	for _, bit := range bits {
		v = 2*v + bit
	}
	return v
}

// readings returns methods with many arguments.
func readings() []reading {
	l := []reading{readGamma()}
	for n := range 33 {
		l = append(l, readBits(n))
	}
	for _, most := range []int{0, 1, 2, 6, 7, 8, 9, 14, 15, 16, 17, 31, 32, 65534, 65535} {
		l = append(l, readUnary(most))
	}
	return l
}

// P9.4
func TestNumbersAreReadBitByBit(t *testing.T) {
	l := readings()
	at := 0
	slicesOf(func(b []byte) {
		bits, last := readable(b)
		for range 4 {
			at++
			c, start := l[at%len(l)], at%(len(bits)+1)
			r := bitio.NewReader(b)
			for range start {
				r.Get()
			}
			want, n, wantE := c.expect(bits[start:], last)
			if v, e := c.read(r); v != want || e != wantE {
				t.Fatalf("%s behind %d bits of % x = %d, %d; expected %d, %d", c.name, start, b, v, e, want, wantE)
			}
			expectRest(t, r, b, start+n)
		}
	})
}

// P9.4
func TestNumbersAtTheEndsOfTheirRanges(t *testing.T) {
	for _, c := range []reading{readBits(0), readBits(31), readBits(32), readGamma(), readUnary(0), readUnary(65534), readUnary(65535)} {
		for _, bits := range [][]int{
			times(32, 1), times(33, 0), gamma(1<<32 - 1), gamma(1 << 31), gamma(1<<31 - 1),
			append(times(32, 0), times(33, 1)...), times(31, 0), append(times(31, 0), times(31, 1)...),
			unary(65533), unary(65534), unary(65535), unary(65536), times(65535, 1),
		} {
			b := encoded(bits)
			all, last := readable(b)
			want, n, wantE := c.expect(all, last)
			r := bitio.NewReader(b)
			if v, e := c.read(r); v != want || e != wantE {
				t.Errorf("%s of %d bits = %d, %d; expected %d, %d", c.name, len(bits), v, e, want, wantE)
			}
			expectRest(t, r, b, n)
		}
	}
}

// P9.4: the error comes as soon as the bits permit no number, also if no further byte follows.
func TestNumbersFailEarly(t *testing.T) {
	for _, c := range []struct {
		b    []byte
		read reading
		e    api.Errno
	}{
		{[]byte{0, 0, 0, 0}, readGamma(), api.ErrSyntax},
		{[]byte{0, 0, 0}, readGamma(), api.ErrTruncated},
		{[]byte{0, 0, 0, 1}, readGamma(), api.ErrTruncated},
		{[]byte{0xFF}, readUnary(7), api.ErrSyntax},
		{[]byte{0xFF}, readUnary(8), api.ErrTruncated},
		{[]byte{0xFF, 0x80}, readUnary(8), api.ErrSyntax},
		{[]byte{0x7F, 0x80}, readUnary(0), api.OK},
		{[]byte{0x80}, readUnary(0), api.ErrSyntax},
		{nil, readUnary(0), api.ErrTruncated},
		{nil, readGamma(), api.ErrTruncated},
		{nil, readBits(1), api.ErrTruncated},
		{nil, readBits(0), api.OK},
		{[]byte{0xFF, 0x80}, readBits(9), api.ErrSyntax},
		{[]byte{0xFF, 0x80}, readBits(8), api.OK},
	} {
		if _, e := c.read.read(bitio.NewReader(c.b)); e != c.e {
			t.Errorf("%s of % x = %d; expected %d", c.read.name, c.b, e, c.e)
		}
	}
}

// P9.4: the error of the argument precedes that of the bits.
func TestNumbersRefuseArgumentsOutOfRange(t *testing.T) {
	for _, b := range [][]byte{nil, {0xFF, 0xFF}, {0, 1, 2, 3, 4, 5, 6, 7, 8, 9}} {
		r := bitio.NewReader(b)
		for _, n := range []int{math.MinInt, -2, -1, 33, 34, 64, math.MaxInt} {
			if v, e := r.Bits(n); v != 0 || e != api.ErrArg {
				t.Errorf("Bits(%d) = %d, %d; expected ErrArg", n, v, e)
			}
		}
		for _, most := range noUnaries {
			if v, e := r.Unary(most); v != 0 || e != api.ErrArg {
				t.Errorf("Unary(%d) = %d, %d; expected ErrArg", most, v, e)
			}
		}
		expectRest(t, r, b, 0)
	}
}

// P9.5, P9.7
func TestAlignSkipsThePadding(t *testing.T) {
	slicesOf(func(b []byte) {
		bits, _ := readable(b)
		for read := range len(bits) + 1 {
			if read > 40 {
				break
			}
			r := bitio.NewReader(b)
			for range read {
				r.Get()
			}
			want, wantE := aligned(b, read)
			for range 2 {
				if n, e := r.Align(); n != want || e != wantE {
					t.Fatalf("Align behind %d bits of % x = %d, %d; expected %d, %d", read, b, n, e, want, wantE)
				}
			}
			if wantE != api.OK {
				expectRest(t, r, b, read)
				continue
			}
			expectRest(t, r, b[want:], 0)
			if !bytes.Equal(encoded(bits[:read]), b[:want]) {
				t.Fatalf("%d bits of % x are aligned at %d, but have the encoding % x", read, b, want, encoded(bits[:read]))
			}
		}
	})
}

// P9.5
func TestAlignIfNothingHasBeenRead(t *testing.T) {
	slicesOf(func(b []byte) {
		r := bitio.NewReader(b)
		r.Bits(0)
		r.Bits(33)
		r.Unary(-1)
		if len(b) < 4 {
			r.Bits(32)
		}
		if n, e := r.Align(); n != 0 || e != api.OK {
			t.Fatalf("Align at the beginning of % x = %d, %d", b, n, e)
		}
		expectRest(t, r, b, 0)
	})
}

// P9.5
func TestAlignBetweenReads(t *testing.T) {
	r := bitio.NewReader([]byte{0xA0, 0xFF, 0x00, 0xFF, 0x78, 0x81, 0xFF, 0x01})
	read := func(n, want int) {
		t.Helper()
		if v, e := r.Bits(n); v != want || e != api.OK {
			t.Errorf("Bits(%d) = %x, %d; expected %x", n, v, e, want)
		}
	}
	align := func(want int, wantE api.Errno) {
		t.Helper()
		for range 2 {
			if n, e := r.Align(); n != want || e != wantE {
				t.Errorf("Align = %d, %d; expected %d, %d", n, e, want, wantE)
			}
		}
	}
	align(0, api.OK)
	read(2, 2)
	align(0, api.ErrSyntax)
	read(1, 1)
	align(1, api.OK)
	read(7, 0x7F)
	align(0, api.ErrSyntax)
	read(1, 1)
	align(3, api.OK)
	read(12, 0xFFF)
	align(5, api.OK)
	read(1, 1)
	align(0, api.ErrSyntax)
	read(7, 1)
	align(6, api.OK)
	read(8, 0xFF)
	align(0, api.ErrSyntax)
	read(7, 1)
	align(8, api.OK)
	if _, e := r.Get(); e != api.ErrTruncated {
		t.Errorf("Get behind all bytes = %d", e)
	}
}

// item is a number to be written and read.
type item struct {
	method string
	v, n   int
}

// items returns random numbers, many of which have many bits 1.
func items(source *rand.Rand) []item {
	l := make([]item, source.IntN(12))
	for i := range l {
		switch n := source.IntN(33); source.IntN(5) {
		case 0:
			l[i] = item{"Put", source.IntN(2), 1}
		case 1:
			l[i] = item{"Bits", source.IntN(1 << n), n}
		case 2:
			l[i] = item{"Bits", 1<<n - 1, n}
		case 3:
			l[i] = item{"Gamma", 1 + source.IntN(1<<n-n/32), 0}
		case 4:
			l[i] = item{"Unary", source.IntN(n + 1), n}
		}
	}
	return l
}

func (c item) write(w *bitio.Writer) api.Errno {
	switch c.method {
	case "Put":
		return w.Put(c.v)
	case "Bits":
		return w.Bits(c.v, c.n)
	case "Gamma":
		return w.Gamma(c.v)
	}
	return w.Unary(c.v)
}

func (c item) read(r *bitio.Reader) (int, api.Errno) {
	switch c.method {
	case "Put":
		return r.Get()
	case "Bits":
		return r.Bits(c.n)
	case "Gamma":
		return r.Gamma()
	}
	return r.Unary(c.n)
}

// P9.6, P9.7
func TestReadersRestoreWhatWritersWrote(t *testing.T) {
	source := rand.New(rand.NewPCG(6, 6))
	for range 20000 {
		l := items(source)
		w := bitio.NewWriter()
		for _, c := range l {
			if e := c.write(w); e != api.OK {
				t.Fatalf("%v: error %d", c, e)
			}
		}
		b := w.Bytes()
		expectStuffing(t, b)
		for _, more := range [][]byte{nil, {0}, {0x80}, {0xFF}, {0xFF, 0xFF, 0xFF}, {byte(source.IntN(256)), 1}} {
			expectItems(t, l, b, more)
		}
	}
}

// expectItems reads numbers from bytes that others follow.
func expectItems(t *testing.T, l []item, b, more []byte) {
	t.Helper()
	all := slices.Concat(b, more)
	r := bitio.NewReader(all)
	for _, c := range l {
		if v, e := c.read(r); v != c.v || e != api.OK {
			t.Fatalf("%v of % x = %d, %d", c, all, v, e)
		}
	}
	for range 2 {
		if n, e := r.Align(); n != len(b) || e != api.OK {
			t.Fatalf("Align behind %v = %d, %d; expected %d", l, n, e, len(b))
		}
	}
	expectRest(t, r, more, 0)
}

// expectStuffing checks that no byte 0xFF stands at the end or before a byte of 0x80 or more.
func expectStuffing(t *testing.T, b []byte) {
	t.Helper()
	for i, v := range b {
		if v == 0xFF && (i+1 == len(b) || b[i+1] >= 0x80) {
			t.Fatalf("the bytes % x of a writer have a byte ff at %d", b, i)
		}
	}
}

// P9.6, P9.7
func TestBitStringsAreRestored(t *testing.T) {
	check := func(bits []int) {
		b := written(t, bits).Bytes()
		expectStuffing(t, b)
		r := bitio.NewReader(slices.Concat(b, []byte{0xFF, 0xFF}))
		for i, bit := range bits {
			if v, e := r.Get(); v != bit || e != api.OK {
				t.Fatalf("the bit %d of %v became %d, %d", i, bits, v, e)
			}
		}
		if n, e := r.Align(); n != len(b) || e != api.OK {
			t.Fatalf("Align behind %v = %d, %d; expected %d", bits, n, e, len(b))
		}
	}
	strings(16, check)
	source := rand.New(rand.NewPCG(7, 7))
	for n := 1; n < 400; n++ {
		check(mostlyOnes(source, n))
		check(times(n, 1))
	}
}

// Rule R7
func TestWritersThatNewWriterDidNotReturn(t *testing.T) {
	original := written(t, []int{1, 0, 1})
	duplicate := *original
	for name, w := range map[string]*bitio.Writer{"nil": nil, "zero": {}, "copied": &duplicate} {
		for method, e := range map[string]api.Errno{
			"Put(1)":      w.Put(1),
			"Put(2)":      w.Put(2),
			"Bits(1, 1)":  w.Bits(1, 1),
			"Bits(0, 0)":  w.Bits(0, 0),
			"Bits(0, -1)": w.Bits(0, -1),
			"Gamma(1)":    w.Gamma(1),
			"Gamma(0)":    w.Gamma(0),
			"Unary(1)":    w.Unary(1),
			"Unary(-1)":   w.Unary(-1),
		} {
			if e != api.ErrState {
				t.Errorf("%s: %s = %d", name, method, e)
			}
		}
		if w.Len() != 0 || len(w.Bytes()) != 0 {
			t.Errorf("%s: %d bits, % x", name, w.Len(), w.Bytes())
		}
	}
	expectBits(t, original, []int{1, 0, 1})
}

// Rule R7
func TestReadersThatNewReaderDidNotReturn(t *testing.T) {
	original := bitio.NewReader([]byte{0xA0, 0x17})
	original.Get()
	duplicate := *original
	for name, r := range map[string]*bitio.Reader{"nil": nil, "zero": {}, "copied": &duplicate} {
		for method, read := range map[string]func() (int, api.Errno){
			"Get":       r.Get,
			"Bits(1)":   func() (int, api.Errno) { return r.Bits(1) },
			"Bits(0)":   func() (int, api.Errno) { return r.Bits(0) },
			"Bits(-1)":  func() (int, api.Errno) { return r.Bits(-1) },
			"Gamma":     r.Gamma,
			"Unary(1)":  func() (int, api.Errno) { return r.Unary(1) },
			"Unary(-1)": func() (int, api.Errno) { return r.Unary(-1) },
			"Align":     r.Align,
		} {
			if v, e := read(); v != 0 || e != api.ErrState {
				t.Errorf("%s: %s = %d, %d", name, method, v, e)
			}
		}
	}
	expectRest(t, original, []byte{0xA0, 0x17}, 1)
}

// The examples 1 and 2 of the chapter.
func TestExamplesOfWriters(t *testing.T) {
	for _, c := range []struct {
		bits []int
		want []byte
	}{
		{nil, nil},
		{[]int{1, 0, 1}, []byte{0xA0}},
		{times(12, 1), []byte{0xFF, 0x78}},
		{times(8, 1), []byte{0xFF, 0x00}},
		{times(15, 1), []byte{0xFF, 0x7F}},
	} {
		if b := written(t, c.bits).Bytes(); !bytes.Equal(b, c.want) {
			t.Errorf("%v has the encoding % x; expected % x", c.bits, b, c.want)
		}
	}
	for _, c := range []struct {
		write item
		want  []int
	}{
		{item{"Gamma", 1, 0}, []int{1}},
		{item{"Gamma", 5, 0}, []int{0, 0, 1, 0, 1}},
		{item{"Unary", 3, 0}, []int{1, 1, 1, 0}},
	} {
		w := bitio.NewWriter()
		if e := c.write.write(w); e != api.OK {
			t.Errorf("%v: error %d", c.write, e)
		}
		expectBits(t, w, c.want)
	}
}

// The examples 3 and 4 of the chapter.
func TestExamplesOfReaders(t *testing.T) {
	for _, c := range []struct {
		b        []byte
		n, v     int
		get      api.Errno
		at       int
		alignErr api.Errno
	}{
		{[]byte{0xFF, 0x80}, 8, 255, api.ErrSyntax, 0, api.ErrSyntax},
		{[]byte{0xFF}, 8, 255, api.ErrTruncated, 0, api.ErrTruncated},
		{[]byte{0xA0}, 3, 5, api.OK, 1, api.OK},
		{[]byte{0xA0}, 2, 2, api.OK, 0, api.ErrSyntax},
	} {
		r := bitio.NewReader(c.b)
		if v, e := r.Bits(c.n); v != c.v || e != api.OK {
			t.Errorf("Bits(%d) of % x = %d, %d; expected %d", c.n, c.b, v, e, c.v)
		}
		if n, e := r.Align(); n != c.at || e != c.alignErr {
			t.Errorf("Align behind %d bits of % x = %d, %d; expected %d, %d", c.n, c.b, n, e, c.at, c.alignErr)
		}
		r = bitio.NewReader(c.b)
		r.Bits(c.n)
		if _, e := r.Get(); e != c.get {
			t.Errorf("Get behind %d bits of % x = %d; expected %d", c.n, c.b, e, c.get)
		}
	}
}
