package marker_test

import (
	"bytes"
	"fmt"
	"math"
	"math/big"
	"math/rand/v2"
	"slices"
	"testing"

	"wavelet/api"
	"wavelet/marker"
)

// extremes are numbers at the ends of the integers and near the limits.
var extremes = []int{math.MinInt, math.MinInt + 1, math.MinInt + 2, -1 << 32, -65536, -2, -1, 0, 1, 2, 3, 4, 5, 255, 256, 257, 65532, 65533, 65535, 65536, 65537, 1<<24 - 1, 1 << 24, 1<<32 - 1, 1 << 32, 1<<32 + 1, 1 << 62, math.MaxInt - 4, math.MaxInt - 3, math.MaxInt - 2, math.MaxInt - 1, math.MaxInt}

// known are the codes of the definition, in its order.
var known = []int{0xffa0, 0xffa1, 0xffa2, 0xffa3, 0xffa4, 0xffa5, 0xffaf, 0xffb0, 0xffb1, 0xffb2}

// bare are those whose segment is the marker alone.
var bare = []int{0xffa0, 0xffaf, 0xffb2}

// last are those that end a list of segments.
var last = []int{0xffb0, 0xffb2, 0xffaf}

// encoded returns the bytes of a valid segment by the definition.
func encoded(s api.Segment) []byte {
	b := []byte{byte(s.Code / 256), byte(s.Code % 256)}
	if slices.Contains(bare, s.Code) {
		return b
	}
	n := len(s.Payload) + 2
	b = append(b, byte(n/256), byte(n%256))
	return append(b, s.Payload...)
}

// appendError follows P28.2.
func appendError(s api.Segment) api.Errno {
	switch {
	case !slices.Contains(known, s.Code):
		return api.ErrMarker
	case slices.Contains(bare, s.Code) && len(s.Payload) > 0:
		return api.ErrLength
	case len(s.Payload) > 65533:
		return api.ErrLimit
	}
	return api.OK
}

// readModel follows P28.3.
func readModel(b []byte, at int) (s api.Segment, next int, e api.Errno) {
	if at < 0 || at > len(b) {
		return s, 0, api.ErrRange
	}
	left := b[at:]
	if len(left) < 2 {
		return s, 0, api.ErrTruncated
	}
	code := int(left[0])*256 + int(left[1])
	if !slices.Contains(known, code) {
		return s, 0, api.ErrMarker
	}
	if slices.Contains(bare, code) {
		return api.Segment{Code: code}, at + 2, api.OK
	}
	if len(left) < 4 {
		return s, 0, api.ErrTruncated
	}
	n := int(left[2])*256 + int(left[3])
	if n < 2 {
		return s, 0, api.ErrLength
	}
	if len(left) < 2+n {
		return s, 0, api.ErrTruncated
	}
	return api.Segment{Code: code, Payload: left[4 : 2+n]}, at + 2 + n, api.OK
}

// allModel follows P28.4.
func allModel(b []byte, at int) (l []api.Segment, next int, e api.Errno) {
	for {
		if at >= 0 && at < len(b)-1 && slices.Contains(last, int(b[at])*256+int(b[at+1])) {
			return l, at, api.OK
		}
		s, next, e := readModel(b, at)
		if e != api.OK {
			return nil, 0, e
		}
		l, at = append(l, s), next
	}
}

func same(a, b api.Segment) bool {
	return a.Code == b.Code && bytes.Equal(a.Payload, b.Payload)
}

// brief returns bytes as a text that is not too long.
func brief(b []byte) string {
	if len(b) > 40 {
		return fmt.Sprintf("%x.. (%d bytes)", b[:40], len(b))
	}
	return fmt.Sprintf("%x", b)
}

// expectAppend checks Append against the definition.
func expectAppend(t *testing.T, b []byte, s api.Segment) api.Errno {
	t.Helper()
	var want []byte
	wantError := appendError(s)
	if wantError == api.OK {
		want = append(slices.Clone(b), encoded(s)...)
	}
	if got, e := marker.Append(b, s); e != wantError || !bytes.Equal(got, want) {
		t.Fatalf("Append(%s, {%x, %s}) = %s, %d; expected %s, %d", brief(b), s.Code, brief(s.Payload), brief(got), e, brief(want), wantError)
	}
	return wantError
}

// expectRead checks Read against the definition.
func expectRead(t *testing.T, b []byte, at int) api.Errno {
	t.Helper()
	want, wantNext, wantError := readModel(b, at)
	if s, next, e := marker.Read(b, at); !same(s, want) || next != wantNext || e != wantError {
		t.Fatalf("Read(%s, %d) = {%x, %s}, %d, %d; expected {%x, %s}, %d, %d", brief(b), at, s.Code, brief(s.Payload), next, e, want.Code, brief(want.Payload), wantNext, wantError)
	}
	return wantError
}

// expectAll checks All against the definition.
func expectAll(t *testing.T, b []byte, at int) api.Errno {
	t.Helper()
	want, wantNext, wantError := allModel(b, at)
	if l, next, e := marker.All(b, at); !slices.EqualFunc(l, want, same) || next != wantNext || e != wantError {
		t.Fatalf("All(%s, %d) = %d segments, %d, %d; expected %d, %d, %d", brief(b), at, len(l), next, e, len(want), wantNext, wantError)
	}
	return wantError
}

// junk returns any bytes; many of them are those of codes, or small.
func junk(source *rand.Rand, n int) []byte {
	b := make([]byte, n)
	for i := range b {
		b[i] = []byte{0xff, byte(0xa0 + source.IntN(6)), byte(0xaf + source.IntN(5)), byte(source.IntN(4)), byte(source.Uint32())}[source.IntN(5)]
	}
	return b
}

// drawn returns a valid segment with one of some codes.
func drawn(source *rand.Rand, codes []int) api.Segment {
	s := api.Segment{Code: codes[source.IntN(len(codes))]}
	if !slices.Contains(bare, s.Code) {
		s.Payload = junk(source, source.IntN(1+source.IntN(300)))
	}
	return s
}

// P28.1: all codes of two bytes, those near the known ones in other numbers of bytes, and the ends of the integers
func TestCodes(t *testing.T) {
	check := func(code int) {
		t.Helper()
		if got, want := marker.Known(code), slices.Contains(known, code); got != want {
			t.Errorf("Known(%x) = %v; expected %v", code, got, want)
		}
		if got, want := marker.Bare(code), slices.Contains(bare, code); got != want {
			t.Errorf("Bare(%x) = %v; expected %v", code, got, want)
		}
	}
	for code := -70000; code <= 140000; code++ {
		check(code)
	}
	for _, code := range extremes {
		check(code)
	}
	for _, code := range known {
		for _, other := range []int{code - 1, code, code + 1, -code, ^code, code & 255, code << 8, code << 16, code - 1<<16, code + 1<<16, code + 1<<32, code | math.MinInt} {
			check(other)
		}
	}
	if l := []int{marker.Start, marker.Size, marker.Coding, marker.Quant, marker.Comment, marker.Index, marker.End, marker.Tile, marker.Lengths, marker.Data}; !slices.Equal(l, known) {
		t.Errorf("the codes are %x", l)
	}
}

// P28.2: all known codes, others, and payloads of all kinds of sizes
func TestAppend(t *testing.T) {
	source := rand.New(rand.NewPCG(28, 1))
	counts := map[api.Errno]int{}
	codes := append(slices.Clone(known), extremes...)
	for code := 0xff9e; code <= 0xffb6; code++ {
		codes = append(codes, code, code-1<<16, code+1<<16, -code)
	}
	var payloads [][]byte
	for _, n := range []int{0, 1, 2, 3, 253, 254, 255, 256, 65531, 65532, 65533, 65534, 65535, 65536, 65537, 131071} {
		payloads = append(payloads, junk(source, n))
	}
	payloads = append(payloads, nil, []byte{})
	for _, code := range codes {
		for _, payload := range payloads {
			for _, b := range [][]byte{nil, {}, {1, 2, 3}} {
				counts[expectAppend(t, b, api.Segment{Code: code, Payload: payload})]++
			}
		}
	}
	for _, e := range []api.Errno{api.OK, api.ErrMarker, api.ErrLength, api.ErrLimit} {
		if counts[e] < 20 {
			t.Errorf("Append returned %d only %d times", e, counts[e])
		}
	}
}

// P28.3: segments that end in each of their bytes, at all offsets, whatever precedes and follows them
func TestRead(t *testing.T) {
	source := rand.New(rand.NewPCG(28, 2))
	counts := map[api.Errno]int{}
	for range 300 {
		before := junk(source, source.IntN(5))
		b := append(slices.Clone(before), encoded(drawn(source, known))...)
		for n := range len(b) + 1 {
			counts[expectRead(t, b[:n], len(before))]++
			expectRead(t, b[:n:n], len(before))
		}
		b = append(b, junk(source, source.IntN(5))...)
		for at := -3; at <= len(b)+3; at++ {
			counts[expectRead(t, b, at)]++
		}
		for _, at := range extremes {
			counts[expectRead(t, b, at)]++
		}
		// the code and the length with each of their bytes replaced
		for i := len(before); i < min(len(before)+4, len(b)); i++ {
			old := b[i]
			for _, v := range []byte{0, 1, 2, 3, 0xa0, 0xa4, 0xb0, 0xb3, 0xfe, 0xff} {
				b[i] = v
				counts[expectRead(t, b, len(before))]++
			}
			b[i] = old
		}
	}
	for _, e := range []api.Errno{api.OK, api.ErrRange, api.ErrTruncated, api.ErrMarker, api.ErrLength} {
		if counts[e] < 20 {
			t.Errorf("Read returned %d only %d times", e, counts[e])
		}
	}
}

// P28.3: all codes with all kinds of lengths, and just as many bytes, one fewer and one more
func TestReadLengths(t *testing.T) {
	for low := range 256 {
		for _, high := range []int{0xff, 0xfe, 0} {
			for _, n := range []int{0, 1, 2, 3, 4, 255, 256, 257, 511, 512, 65534, 65535} {
				if n > 600 && (low < 0x9e || low > 0xb6) {
					continue // these bytes would tell nothing more
				}
				b := append([]byte{byte(high), byte(low), byte(n / 256), byte(n % 256)}, make([]byte, n)...)
				for _, size := range []int{2, 3, 4, 5, n + 1, n + 2, n + 3, n + 4} {
					expectRead(t, b[:min(size, len(b))], 0)
				}
			}
		}
	}
}

// P28.3, P28.4: no bytes
func TestNoBytes(t *testing.T) {
	for _, b := range [][]byte{nil, {}, make([]byte, 0, 9)} {
		for _, at := range extremes {
			want := api.ErrRange
			if at == 0 {
				want = api.ErrTruncated
			}
			if e := expectRead(t, b, at); e != want {
				t.Errorf("Read of no bytes at %d = %d; expected %d", at, e, want)
			}
			if e := expectAll(t, b, at); e != want {
				t.Errorf("All of no bytes at %d = %d; expected %d", at, e, want)
			}
			expectReadUint(t, b, at, 1)
		}
	}
}

// others are the known codes that do not end a list.
func others() []int {
	return slices.DeleteFunc(slices.Clone(known), func(code int) bool { return slices.Contains(last, code) })
}

// P28.4, P28.8: lists of segments that end with each of the three codes, whatever follows it, and lists that do not
func TestAll(t *testing.T) {
	source := rand.New(rand.NewPCG(28, 3))
	counts := map[api.Errno]int{}
	for i := range 600 {
		b := junk(source, source.IntN(4))
		at := len(b)
		var l []api.Segment
		for range source.IntN(7) {
			l = append(l, drawn(source, others()))
			b = append(b, encoded(l[len(l)-1])...)
		}
		end := len(b)
		code := last[i%3]
		b = append(b, byte(code>>8), byte(code))
		for _, more := range [][]byte{nil, {0}, {0, 0}, {0, 1}, {0, 9, 1}, {0, 2}, junk(source, 9)} {
			long := append(slices.Clone(b), more...)
			if got, next, e := marker.All(long, at); !slices.EqualFunc(got, l, same) || next != end || e != api.OK {
				t.Fatalf("All(%s, %d) = %d segments, %d, %d; expected %d, %d", brief(long), at, len(got), next, e, len(l), end)
			}
			if got, next, e := marker.All(long, end); len(got) != 0 || next != end || e != api.OK {
				t.Fatalf("All(%s, %d) = %d segments, %d, %d; expected none, %d", brief(long), end, len(got), next, e, end)
			}
			for at := -2; at < len(long)+3; at++ {
				counts[expectAll(t, long, at)]++
			}
		}
		for n := range b {
			counts[expectAll(t, b[:n], at)]++ // also between two segments
		}
		for _, at := range extremes {
			counts[expectAll(t, b, at)]++
		}
		// an unknown code at the end, one in between, and a wrong length
		unknown := append(slices.Clone(b[:end]), 0xff, byte(0xb3+source.IntN(70)))
		if e := expectAll(t, unknown, at); e != api.ErrMarker {
			t.Fatalf("All(%s) = %d", brief(unknown), e)
		}
		wrong := append(slices.Clone(b[:end]), 0xff, 0xa4, 0, byte(source.IntN(2)))
		if e := expectAll(t, append(wrong, b[at:]...), at); e != api.ErrLength {
			t.Fatalf("All(%s) = %d", brief(wrong), e)
		}
	}
	for _, e := range []api.Errno{api.OK, api.ErrRange, api.ErrTruncated, api.ErrMarker, api.ErrLength} {
		if counts[e] < 20 {
			t.Errorf("All returned %d only %d times", e, counts[e])
		}
	}
}

// P28.4: many segments, with payloads as large as they can be
func TestLongLists(t *testing.T) {
	large := encoded(api.Segment{Code: marker.Comment, Payload: make([]byte, api.MaxSegment)})
	b := append(bytes.Repeat(large, 20), bytes.Repeat([]byte{0xff, 0xa0}, 100000)...)
	if e := expectAll(t, b, 0); e != api.ErrTruncated {
		t.Errorf("All without an end = %d", e)
	}
	b = append(b, 0xff, 0xb2)
	if e := expectAll(t, b, 0); e != api.OK {
		t.Errorf("All = %d", e)
	}
	if e := expectAll(t, b, len(large)); e != api.OK {
		t.Errorf("All = %d", e)
	}
}

// P28.3, P28.4: any bytes
func TestAnyBytes(t *testing.T) {
	source := rand.New(rand.NewPCG(28, 4))
	for range 20000 {
		b := junk(source, source.IntN(30))
		at := source.IntN(len(b)+4) - 1
		expectRead(t, b, at)
		expectAll(t, b, at)
	}
}

// power returns 256^n - 1.
func power(n int) *big.Int {
	p := new(big.Int).Exp(big.NewInt(256), big.NewInt(int64(n)), nil)
	return p.Sub(p, big.NewInt(1))
}

// expectUint checks Uint against P28.5.
func expectUint(t *testing.T, b []byte, v, n int) api.Errno {
	t.Helper()
	var want []byte
	wantError := api.ErrRange
	if n >= 1 && n <= 4 && v >= 0 && big.NewInt(int64(v)).Cmp(power(n)) <= 0 {
		want, wantError = append(slices.Clone(b), big.NewInt(int64(v)).FillBytes(make([]byte, n))...), api.OK
	}
	if got, e := marker.Uint(b, v, n); !bytes.Equal(got, want) || e != wantError {
		t.Fatalf("Uint(%x, %d, %d) = %x, %d; expected %x, %d", b, v, n, got, e, want, wantError)
	}
	return wantError
}

// expectReadUint checks ReadUint against P28.6.
func expectReadUint(t *testing.T, b []byte, at, n int) api.Errno {
	t.Helper()
	want, wantError := 0, api.OK
	switch {
	case n < 1 || n > 4 || at < 0 || at > len(b):
		wantError = api.ErrRange
	case len(b[at:]) < n:
		wantError = api.ErrTruncated
	default:
		want = int(new(big.Int).SetBytes(b[at : at+n]).Int64())
	}
	if v, e := marker.ReadUint(b, at, n); v != want || e != wantError {
		t.Fatalf("ReadUint(%x, %d, %d) = %d, %d; expected %d, %d", b, at, n, v, e, want, wantError)
	}
	return wantError
}

// P28.5, P28.6, P28.7: numbers at the ends of their ranges and beyond, in all numbers of bytes
func TestNumbers(t *testing.T) {
	source := rand.New(rand.NewPCG(28, 5))
	counts, readCounts := map[api.Errno]int{}, map[api.Errno]int{}
	numbers := slices.Clone(extremes)
	for i := range 63 {
		numbers = append(numbers, 1<<i-1, 1<<i, 1<<i+1, -1<<i, source.IntN(1<<i))
	}
	for _, v := range numbers {
		for n := -2; n < 70; n++ {
			for _, b := range [][]byte{nil, {}, {7, 8, 9}} {
				counts[expectUint(t, b, v, n)]++
			}
		}
		for _, n := range extremes {
			counts[expectUint(t, []byte{5}, v, n)]++
		}
	}
	for range 2000 {
		before := junk(source, source.IntN(5))
		n := 1 + source.IntN(4)
		v := source.IntN(1 << (8 * n))
		b, e := marker.Uint(before, v, n)
		if got, readError := marker.ReadUint(append(b, junk(source, 3)...), len(before), n); e != api.OK || readError != api.OK || got != v {
			t.Fatalf("Uint of %d in %d bytes is read as %d, %d", v, n, got, readError)
		}
		for n := -1; n < 7; n++ {
			for at := -2; at < len(b)+3; at++ {
				readCounts[expectReadUint(t, b, at, n)]++
			}
		}
		if v, e := marker.ReadUint(b, len(before), n); e != api.OK {
			t.Fatalf("ReadUint = %d", e)
		} else if again, e := marker.Uint(before, v, n); e != api.OK || !bytes.Equal(again, b) {
			t.Fatalf("%d is written as %x, %d; expected %x", v, again, e, b)
		}
	}
	for _, at := range extremes {
		for _, n := range extremes {
			readCounts[expectReadUint(t, []byte{1, 2, 3, 4, 5, 6}, at, n)]++
		}
	}
	if counts[api.OK] < 100 || counts[api.ErrRange] < 100 {
		t.Errorf("Uint returned %v", counts)
	}
	for _, e := range []api.Errno{api.OK, api.ErrRange, api.ErrTruncated} {
		if readCounts[e] < 100 {
			t.Errorf("ReadUint returned %d only %d times", e, readCounts[e])
		}
	}
}

// P28.7: segments are read back, whatever follows them, and what is read is written as it was
func TestRoundTrip(t *testing.T) {
	source := rand.New(rand.NewPCG(28, 6))
	for i := range 3000 {
		before, s := junk(source, source.IntN(9)), drawn(source, known)
		if i%100 == 0 {
			s = api.Segment{Code: marker.Index, Payload: junk(source, api.MaxSegment-i%200/100)}
		}
		b, e := marker.Append(before, s)
		if e != api.OK {
			t.Fatalf("Append(%s, {%x, %s}) = %d", brief(before), s.Code, brief(s.Payload), e)
		}
		got, next, e := marker.Read(append(slices.Clone(b), junk(source, source.IntN(9))...), len(before))
		if e != api.OK || next != len(b) || !same(got, s) {
			t.Fatalf("{%x, %s} is read as {%x, %s}, %d, %d", s.Code, brief(s.Payload), got.Code, brief(got.Payload), next, e)
		}
	}
	read := 0
	for range 40000 {
		b := junk(source, source.IntN(20))
		at := source.IntN(len(b) + 1)
		s, next, e := marker.Read(b, at)
		if e != api.OK {
			continue
		}
		read++
		if again, e := marker.Append(b[:at], s); e != api.OK || !bytes.Equal(again, b[:next]) {
			t.Fatalf("what is read of %x at %d is written as %x, %d", b, at, again, e)
		}
	}
	if read < 500 {
		t.Errorf("only %d segments were read", read)
	}
}

// behind returns bytes with capacity and other bytes behind them.
func behind(b []byte) []byte {
	return append(slices.Clone(b), 0xEE, 0xEE, 0xEE, 0xEE, 0xEE, 0xEE, 0xEE, 0xEE)[:len(b)]
}

// expectUnchanged checks that bytes, and those behind them, are as they were.
func expectUnchanged(t *testing.T, b, want []byte) {
	t.Helper()
	if long := b[:len(b)+8]; !bytes.Equal(b, want) || !bytes.Equal(long[len(b):], bytes.Repeat([]byte{0xEE}, 8)) {
		t.Fatalf("%x has become %x", want, long)
	}
}

// spoil overwrites bytes, and those behind them.
func spoil(b []byte) {
	b = b[:cap(b)]
	for i := range b {
		b[i] ^= 0x55
	}
}

// Rule R6: arguments stay as they are, with what lies behind them; results share no memory with them
func TestMemory(t *testing.T) {
	source := rand.New(rand.NewPCG(28, 7))
	for range 2000 {
		before, s := junk(source, source.IntN(9)), drawn(source, known)
		want := append(slices.Clone(before), encoded(s)...)
		b, payload := behind(before), behind(s.Payload)
		got, e := marker.Append(b, api.Segment{Code: s.Code, Payload: payload})
		if e != api.OK {
			t.Fatalf("Append = %d", e)
		}
		expectUnchanged(t, b, before)
		expectUnchanged(t, payload, s.Payload)
		spoil(b)
		spoil(payload)
		if !bytes.Equal(got, want) {
			t.Fatalf("the result of Append changes with its arguments: %x", got)
		}

		v := source.IntN(1 << 16)
		b = behind(before)
		got, e = marker.Uint(b, v, 2)
		expectUnchanged(t, b, before)
		spoil(b)
		if e != api.OK || !bytes.Equal(got, append(slices.Clone(before), byte(v>>8), byte(v))) {
			t.Fatalf("the result of Uint changes with its argument: %x", got)
		}

		b = behind(want)
		read, _, e := marker.Read(b, len(before))
		expectUnchanged(t, b, want)
		spoil(b)
		if e != api.OK || !same(read, s) {
			t.Fatalf("the result of Read changes with its argument")
		}
		b = behind(want)
		read, _, _ = marker.Read(b, len(before))
		spoil(read.Payload)
		expectUnchanged(t, b, want)
	}
}

// Rule R6: the segments of a list share no memory with the bytes, nor with each other
func TestListsShareNoMemory(t *testing.T) {
	source := rand.New(rand.NewPCG(28, 8))
	for range 500 {
		var want []api.Segment
		var b []byte
		for range 1 + source.IntN(6) {
			s := drawn(source, others())
			want, b = append(want, s), append(b, encoded(s)...)
		}
		b = append(b, 0xff, 0xaf)
		given := behind(b)
		l, next, e := marker.All(given, 0)
		if e != api.OK || next != len(b)-2 {
			t.Fatalf("All = %d, %d", next, e)
		}
		expectUnchanged(t, given, b)
		spoil(given)
		for i := range l {
			if !slices.EqualFunc(l[i:], want[i:], same) {
				t.Fatalf("the segments from %d on share memory with others, or with the bytes", i)
			}
			spoil(l[i].Payload)
		}
	}
}

// Rule R3, R5: nothing is returned with an error, and nil and empty slices are the same
func TestEmptySlices(t *testing.T) {
	for _, payload := range [][]byte{nil, {}, make([]byte, 0, 5)} {
		for _, code := range known {
			b, e := marker.Append(nil, api.Segment{Code: code, Payload: payload})
			if e != api.OK || !bytes.Equal(b, encoded(api.Segment{Code: code})) {
				t.Errorf("Append of the code %x = %x, %d", code, b, e)
			}
			if s, next, e := marker.Read(b, 0); s.Code != code || len(s.Payload) != 0 || next != len(b) || e != api.OK {
				t.Errorf("Read(%x) = %v, %d, %d", b, s, next, e)
			}
		}
	}
}

// The examples of the chapter.
func TestExamples(t *testing.T) {
	hi := api.Segment{Code: marker.Comment, Payload: []byte("hi")}
	if b, e := marker.Append(nil, hi); !bytes.Equal(b, []byte{0xff, 0xa4, 0, 4, 0x68, 0x69}) || e != api.OK {
		t.Errorf("Append = %x, %d", b, e)
	}
	if b, e := marker.Append(nil, api.Segment{Code: marker.End}); !bytes.Equal(b, []byte{0xff, 0xaf}) || e != api.OK {
		t.Errorf("Append = %x, %d", b, e)
	}
	for _, c := range []struct {
		b []byte
		e api.Errno
	}{
		{[]byte{0xff, 0xa4, 0, 1}, api.ErrLength},
		{[]byte{0xff, 0xa4, 0, 4, 0x68}, api.ErrTruncated},
		{[]byte{0xff, 0xb3, 0, 2}, api.ErrMarker},
		{[]byte{0xff}, api.ErrTruncated},
	} {
		if s, next, e := marker.Read(c.b, 0); !same(s, api.Segment{}) || next != 0 || e != c.e {
			t.Errorf("Read(%x) = %v, %d, %d; expected %d", c.b, s, next, e, c.e)
		}
	}
	b := []byte{0xff, 0xa0, 0xff, 0xa4, 0, 4, 0x68, 0x69, 0xff, 0xaf}
	if l, next, e := marker.All(b, 0); !slices.EqualFunc(l, []api.Segment{{Code: marker.Start}, hi}, same) || next != 8 || e != api.OK {
		t.Errorf("All = %v, %d, %d", l, next, e)
	}
	if l, next, e := marker.All(b, 8); len(l) != 0 || next != 8 || e != api.OK {
		t.Errorf("All = %v, %d, %d", l, next, e)
	}
	if b, e := marker.Uint(nil, 258, 2); !bytes.Equal(b, []byte{1, 2}) || e != api.OK {
		t.Errorf("Uint = %x, %d", b, e)
	}
	if b, e := marker.Uint(nil, 256, 1); len(b) != 0 || e != api.ErrRange {
		t.Errorf("Uint = %x, %d", b, e)
	}
}
