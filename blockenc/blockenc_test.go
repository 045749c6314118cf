package blockenc_test

import (
	"bytes"
	"math"
	"math/rand/v2"
	"slices"
	"testing"

	"wavelet/api"
	"wavelet/arith"
	"wavelet/blockenc"
	"wavelet/encpass"
)

const most = 1<<60 - 1 // the highest absolute value of a coefficient

// sizes calls f for many small sizes, and for some of the largest ones.
func sizes(f func(w, h int)) {
	for w := 1; w <= 5; w++ {
		for h := 1; h <= 9; h++ {
			f(w, h)
		}
	}
	for _, s := range [][2]int{{64, 1}, {1, 64}, {64, 4}, {3, 63}, {63, 5}, {6, 62}} {
		f(s[0], s[1])
	}
}

// modes are all combinations of a Mode's fields.
func modes() []api.Mode {
	var l []api.Mode
	for n := range 32 {
		l = append(l, api.Mode{Bypass: n&1 != 0, Restart: n&2 != 0, Reset: n&4 != 0, Causal: n&8 != 0, Symbols: n&16 != 0})
	}
	return l
}

func orients() []api.Orient { return []api.Orient{api.LL, api.HL, api.LH, api.HH} }

// number returns a random value of at most so many planes, often a small one.
func number(source *rand.Rand, planes int) int {
	v := int(source.Uint64N(1 << source.IntN(planes+1)))
	if source.IntN(2) == 0 {
		return -v
	}
	return v
}

// sparse returns values most of which are 0.
func sparse(source *rand.Rand, n, planes int) []int {
	values := make([]int, n)
	rare := 1 + source.IntN(12)
	for i := range values {
		if source.IntN(rare) == 0 {
			values[i] = number(source, planes)
		}
	}
	return values
}

// blocks calls f for the values of many blocks, in all orientations and modes.
func blocks(seed uint64, f func(values []int, w, h int, o api.Orient, m api.Mode)) {
	source := rand.New(rand.NewPCG(17, seed))
	sizes(func(w, h int) {
		for i, m := range modes() {
			planes := 1 + source.IntN(10)
			if i%8 == 0 {
				planes = 1 + source.IntN(60)
			}
			f(sparse(source, w*h, planes), w, h, orients()[source.IntN(4)], m)
		}
	})
	for _, m := range modes() {
		for _, values := range [][]int{{most, -most, 0, 1}, {0, 0, 0, -1 << 59}, {1, 1 << 59, -1, 1<<59 - 1}, {0, 0, 0, 0}} {
			f(values, 1, 4, api.LL, m)
			f(values, 2, 2, api.HH, m)
		}
	}
}

// full returns the values of the largest block, many of which have so many planes.
func full(seed uint64, planes int) []int {
	source := rand.New(rand.NewPCG(17, seed))
	values := make([]int, 4096)
	for i := range values {
		values[i] = int(source.Uint64N(1<<planes)) * (1 - 2*source.IntN(2))
	}
	values[0] = 1<<planes - 1
	return values
}

// division returns the numbers of passes of the segments (P14.8).
func division(passes int, m api.Mode) []int {
	var l []int
	for passes > 0 {
		n := passes
		switch {
		case m.Restart:
			n = 1
		case m.Bypass && len(l) == 0:
			n = min(n, 10)
		case m.Bypass:
			n = min(n, 1+len(l)%2)
		}
		l = append(l, n)
		passes -= n
	}
	return l
}

// codeword codes the passes of a segment. It returns the size after each pass, and the bytes.
func codeword(c *arith.Encoder, passes [][]api.Symbol, reset bool) (after []int, data []byte) {
	for _, list := range passes {
		if reset {
			c.Reset()
		}
		for _, s := range list {
			c.Encode(s.Context, s.Bit)
		}
		after = append(after, c.Size())
	}
	return after, c.Terminate()
}

// bitString writes the passes of a raw segment. It returns the size after each pass, and the bytes.
func bitString(passes [][]api.Symbol) (after []int, data []byte) {
	n := 0
	for _, list := range passes {
		for _, s := range list {
			if n%8 == 0 {
				data = append(data, 0)
			}
			data[n/8] += byte(s.Bit << (7 - n%8))
			n++
		}
		after = append(after, len(data))
	}
	return after, bytes.TrimRight(data, "\x00")
}

// model returns the coded block of the definitions.
func model(t *testing.T, values []int, w, h int, o api.Orient, m api.Mode) api.Coded {
	t.Helper()
	passes, e := encpass.Symbols(values, w, h, o, m)
	c, f := arith.NewEncoder(19)
	if e != api.OK || f != api.OK {
		t.Fatalf("the symbols of %d by %d values: %d, %d", w, h, e, f)
	}
	want := api.Coded{Planes: encpass.Planes(values)}
	first := 0
	for _, n := range division(len(passes), m) {
		part := passes[first : first+n]
		var after []int
		var data []byte
		if m.Bypass && first >= 10 && first%3 != 0 {
			after, data = bitString(part)
		} else {
			after, data = codeword(c, part, m.Reset)
		}
		begin := len(want.Data)
		for _, size := range after[:n-1] {
			want.Passes = append(want.Passes, begin+min(size, len(data)))
		}
		want.Passes = append(want.Passes, begin+len(data))
		want.Data = append(want.Data, data...)
		first += n
	}
	return want
}

func equal(a, b api.Coded) bool {
	return a.Planes == b.Planes && slices.Equal(a.Passes, b.Passes) && bytes.Equal(a.Data, b.Data)
}

// encode returns the coded block of values.
func encode(t *testing.T, values []int, w, h int, o api.Orient, m api.Mode) api.Coded {
	t.Helper()
	c, e := blockenc.Encode(values, w, h, o, m)
	if e != api.OK {
		t.Fatalf("Encode of %d by %d values in %d, %v = %d", w, h, o, m, e)
	}
	return c
}

// P17.1, P17.4, P17.6
func TestEncode(t *testing.T) {
	blocks(1, func(values []int, w, h int, o api.Orient, m api.Mode) {
		got, want := encode(t, values, w, h, o, m), model(t, values, w, h, o, m)
		if !equal(got, want) {
			t.Fatalf("%d by %d: Encode(%v) in %d, %v = %v; expected %v", w, h, values, o, m, got, want)
		}
		if e := blockenc.Valid(got, m); e != api.OK {
			t.Fatalf("Valid(%v) = %d", got, e)
		}
		if n := max(0, 3*got.Planes-2); len(got.Passes) != n {
			t.Fatalf("%v has %d passes; expected %d", values, len(got.Passes), n)
		}
	})
}

// P17.1, P17.4
func TestEncodeLargeBlocks(t *testing.T) {
	for i, m := range modes() {
		for _, planes := range []int{1, 5, 12, 60} {
			if planes == 60 && i%5 != 0 {
				continue
			}
			values := full(uint64(i), planes)
			got, want := encode(t, values, 64, 64, orients()[i%4], m), model(t, values, 64, 64, orients()[i%4], m)
			if !equal(got, want) || got.Planes != planes || len(got.Passes) != 3*planes-2 {
				t.Fatalf("the block of %d planes in %v is not as defined", planes, m)
			}
			if e := blockenc.Valid(got, m); e != api.OK {
				t.Fatalf("the block of %d planes in %v is not valid: %d", planes, m, e)
			}
		}
	}
}

// P17.1: every field of the mode, and the orientation, changes the coded block of some values.
func TestModesMatter(t *testing.T) {
	values := full(2, 8)[:64]
	plain := encode(t, values, 8, 8, api.LL, api.Mode{})
	for _, m := range []api.Mode{{Bypass: true}, {Restart: true}, {Reset: true}, {Causal: true}, {Symbols: true}} {
		if equal(encode(t, values, 8, 8, api.LL, m), plain) {
			t.Errorf("%v changes nothing", m)
		}
	}
	for _, o := range []api.Orient{api.HL, api.HH} {
		if equal(encode(t, values, 8, 8, o, api.Mode{}), plain) {
			t.Errorf("the orientation %d changes nothing", o)
		}
	}
}

// badSides are numbers that are no widths or heights.
func badSides() []int {
	return []int{math.MinInt, -1 << 32, -64, -2, -1, 0, 65, 66, 128, 1 << 32, 1<<32 + 1, 1 << 62, math.MaxInt}
}

// badOrients are numbers that are no orientations.
func badOrients() []api.Orient {
	return []api.Orient{math.MinInt, -1 << 32, -4, -1, 4, 5, 7, 256, 1 << 32, 1<<32 + 1, math.MaxInt}
}

// badValues are numbers whose absolute values are too great.
func badValues() []int {
	return []int{math.MinInt, math.MinInt + 1, -1 << 62, -1<<60 - 1, -1 << 60, 1 << 60, 1<<60 + 1, 1 << 61, 1 << 62, math.MaxInt}
}

// rejectEncode checks that Encode returns an error and nothing else.
func rejectEncode(t *testing.T, values []int, w, h int, o api.Orient, want api.Errno) {
	t.Helper()
	for _, m := range []api.Mode{{}, {Bypass: true, Restart: true, Reset: true, Causal: true, Symbols: true}} {
		if c, e := blockenc.Encode(values, w, h, o, m); e != want || !equal(c, api.Coded{}) {
			t.Fatalf("Encode of %d values, %d by %d in %d = %v, %d; expected %d", len(values), w, h, o, c, e, want)
		}
	}
}

// P17.1: the errors in their order.
func TestEncodeRejects(t *testing.T) {
	lists := [][]int{nil, {}, {1}, {1, 2, 3, 4, 5, 6}, {1 << 60}, {0, math.MinInt, 0, 0, 0, 0}, make([]int, 4096), make([]int, 5000)}
	for _, o := range append(badOrients(), orients()...) {
		for _, values := range lists {
			for _, side := range badSides() {
				rejectEncode(t, values, side, 1, o, api.ErrRange)
				rejectEncode(t, values, 64, side, o, api.ErrRange)
				rejectEncode(t, values, side, side, o, api.ErrRange)
			}
			for _, s := range [][2]int{{2, 2}, {1, 5}, {7, 1}, {64, 63}, {63, 64}} {
				rejectEncode(t, values, s[0], s[1], o, api.ErrLength)
			}
		}
	}
	for _, o := range badOrients() {
		rejectEncode(t, []int{1}, 1, 1, o, api.ErrKind)
		rejectEncode(t, []int{1 << 60}, 1, 1, o, api.ErrKind)
		rejectEncode(t, make([]int, 4096), 64, 64, o, api.ErrKind)
	}
	for _, v := range badValues() {
		for _, o := range orients() {
			rejectEncode(t, []int{v}, 1, 1, o, api.ErrRange)
			rejectEncode(t, []int{v, 0, 0, 0, 0, 0}, 3, 2, o, api.ErrRange)
			rejectEncode(t, []int{1, 2, 3, 4, 5, v}, 2, 3, o, api.ErrRange)
		}
	}
}

// validity returns what Valid returns by the definition.
func validity(c api.Coded) api.Errno {
	if c.Planes < 0 || c.Planes > 60 {
		return api.ErrRange
	}
	n := len(c.Passes)
	if n > 3*c.Planes-2 && n > 0 {
		return api.ErrLength
	}
	last := 0
	for i, entry := range c.Passes {
		if entry < 0 || i > 0 && entry < c.Passes[i-1] {
			return api.ErrLength
		}
		last = entry
	}
	if last != len(c.Data) {
		return api.ErrLength
	}
	if len(c.Data) > 65535 {
		return api.ErrLimit
	}
	return api.OK
}

// P17.2: all short lists of small entries.
func TestValidOfSmallBlocks(t *testing.T) {
	results := map[api.Errno]int{}
	var lists [][]int
	for n := 0; n <= 5; n++ {
		lists = append(lists, tuples(n)...)
	}
	for _, planes := range []int{math.MinInt, -1, 0, 1, 2, 3, 60, 61, math.MaxInt/3 + 1, math.MaxInt} {
		for _, list := range lists {
			for length := range 4 {
				c := api.Coded{Planes: planes, Passes: list, Data: make([]byte, length)}
				want := validity(c)
				results[want]++
				if e := blockenc.Valid(c, api.Mode{}); e != want {
					t.Fatalf("Valid(%v) = %d; expected %d", c, e, want)
				}
			}
		}
	}
	if results[api.OK] < 100 || results[api.ErrRange] < 100 || results[api.ErrLength] < 100 {
		t.Errorf("the results are %v", results)
	}
}

// tuples returns all lists of n numbers from -1 to 3.
func tuples(n int) [][]int {
	if n == 0 {
		return [][]int{nil}
	}
	var l [][]int
	for _, list := range tuples(n - 1) {
		for v := -1; v <= 3; v++ {
			l = append(l, append(slices.Clone(list), v))
		}
	}
	return l
}

// coded returns a block in which all passes have the same entry.
func coded(planes, passes, entry, length int) api.Coded {
	c := api.Coded{Planes: planes, Data: make([]byte, length)}
	for range passes {
		c.Passes = append(c.Passes, entry)
	}
	return c
}

// invalid are coded blocks with the errors of Valid, each with more than one reason if there is a later one.
func invalid() []struct {
	c    api.Coded
	want api.Errno
} {
	const long = 65536
	decreasing := coded(2, 4, long, long)
	decreasing.Passes[2]--
	fallen := coded(60, 178, 9, 9)
	fallen.Passes[176] = 10
	negative := coded(60, 178, 0, 0)
	negative.Passes[0] = -1
	return []struct {
		c    api.Coded
		want api.Errno
	}{
		{coded(-1, 0, 0, 0), api.ErrRange}, {coded(-1, 500, -1, long), api.ErrRange}, {coded(61, 0, 0, 0), api.ErrRange}, {coded(61, 181, 0, 0), api.ErrRange},
		{coded(math.MinInt, 1, 5, long), api.ErrRange}, {coded(math.MaxInt, 1, 0, 0), api.ErrRange}, {coded(math.MaxInt/3+2, 1, 0, 0), api.ErrRange}, {coded(1<<32, 1, 0, 0), api.ErrRange}, {coded(1<<32+1, 1, 0, 0), api.ErrRange},
		{coded(0, 1, 0, 0), api.ErrLength}, {coded(0, 1, long, long), api.ErrLength}, {coded(1, 2, 0, 0), api.ErrLength}, {coded(1, 2, long, long), api.ErrLength}, {coded(60, 179, 7, 7), api.ErrLength},
		{coded(2, 5, 0, 0), api.ErrLength}, {coded(1, 1, -1, 0), api.ErrLength}, {coded(1, 1, -1, long), api.ErrLength}, {coded(60, 178, math.MinInt, 0), api.ErrLength}, {decreasing, api.ErrLength}, {fallen, api.ErrLength}, {negative, api.ErrLength},
		{coded(1, 1, 3, 2), api.ErrLength}, {coded(1, 1, 3, 4), api.ErrLength}, {coded(1, 1, 3, long), api.ErrLength}, {coded(1, 1, long, 5), api.ErrLength}, {coded(1, 1, math.MaxInt, 5), api.ErrLength}, {coded(1, 1, 1<<32, 0), api.ErrLength},
		{coded(0, 0, 0, 1), api.ErrLength}, {coded(5, 0, 0, 1), api.ErrLength}, {coded(0, 0, 0, long), api.ErrLength}, {coded(60, 0, 0, long), api.ErrLength},
		{coded(1, 1, long, long), api.ErrLimit}, {coded(60, 178, long, long), api.ErrLimit}, {coded(2, 3, 100000, 100000), api.ErrLimit},
	}
}

// P17.2: the errors in their order, in all modes.
func TestValidRejects(t *testing.T) {
	for i, c := range invalid() {
		for _, m := range modes() {
			if e := blockenc.Valid(c.c, m); e != c.want {
				t.Fatalf("case %d, %v: %d; expected %d", i, m, e, c.want)
			}
		}
	}
}

// P17.2
func TestValidAccepts(t *testing.T) {
	for _, m := range modes() {
		for planes := range 61 {
			for _, passes := range []int{0, 1, 3*planes - 3, 3*planes - 2} {
				for _, length := range []int{0, 1, 65534, 65535} {
					if passes < 0 || passes > 3*planes-2 && passes > 0 || passes == 0 && length > 0 {
						continue
					}
					if e := blockenc.Valid(coded(planes, passes, length, length), m); e != api.OK {
						t.Fatalf("%d passes of %d planes, %d bytes: %d", passes, planes, length, e)
					}
				}
			}
		}
		if e := blockenc.Valid(api.Coded{Planes: 3, Passes: []int{0, 0, 5, 5, 6, 9, 9}, Data: make([]byte, 9)}, m); e != api.OK {
			t.Errorf("entries that grow: %d", e)
		}
	}
}

// random returns a valid block of any bytes.
func random(source *rand.Rand) api.Coded {
	c := api.Coded{Planes: source.IntN(61)}
	for range source.IntN(max(1, 3*c.Planes-1)) {
		c.Passes = append(c.Passes, source.IntN(200))
	}
	slices.Sort(c.Passes)
	if n := len(c.Passes); n > 0 {
		for range c.Passes[n-1] {
			c.Data = append(c.Data, byte(source.IntN(256)))
		}
	}
	return c
}

// cut returns the first passes of a block by the definition.
func cut(c api.Coded, passes int) api.Coded {
	c.Passes = c.Passes[:passes]
	length := 0
	for _, entry := range c.Passes {
		length = entry
	}
	c.Data = c.Data[:length]
	return c
}

// truncate returns a block without its last passes.
func truncate(t *testing.T, c api.Coded, passes int, m api.Mode) api.Coded {
	t.Helper()
	got, e := blockenc.Truncate(c, passes, m)
	if e != api.OK {
		t.Fatalf("Truncate of %d planes and %d passes to %d = %d", c.Planes, len(c.Passes), passes, e)
	}
	return got
}

// P17.3, P17.4, P17.5
func TestTruncate(t *testing.T) {
	source := rand.New(rand.NewPCG(17, 3))
	check := func(c api.Coded, m api.Mode) {
		t.Helper()
		all := len(c.Passes)
		for n := range all + 1 {
			got := truncate(t, c, n, m)
			if !equal(got, cut(c, n)) || blockenc.Valid(got, m) != api.OK {
				t.Fatalf("Truncate(%v, %d) = %v", c, n, got)
			}
			less := source.IntN(n + 1)
			if twice := truncate(t, got, less, m); !equal(twice, truncate(t, c, less, m)) {
				t.Fatalf("Truncate of %v to %d and then to %d = %v", c, n, less, twice)
			}
		}
		if !equal(truncate(t, c, all, m), c) {
			t.Fatalf("Truncate of %v to all its passes changes it", c)
		}
	}
	blocks(4, func(values []int, w, h int, o api.Orient, m api.Mode) {
		if w*h < 12 {
			check(encode(t, values, w, h, o, m), m)
		}
	})
	for i := range 500 {
		check(random(source), modes()[i%32])
	}
	check(coded(60, 178, 65535, 65535), api.Mode{})
}

// rejectTruncate checks that Truncate returns an error and nothing else.
func rejectTruncate(t *testing.T, c api.Coded, passes int, m api.Mode, want api.Errno) {
	t.Helper()
	if got, e := blockenc.Truncate(c, passes, m); e != want || !equal(got, api.Coded{}) {
		t.Fatalf("Truncate of %d planes and %d passes to %d = %v, %d; expected %d", c.Planes, len(c.Passes), passes, got, e, want)
	}
}

// P17.3: the errors of Valid come first.
func TestTruncateRejects(t *testing.T) {
	for _, c := range invalid() {
		for _, n := range []int{math.MinInt, -1, 0, 1, len(c.c.Passes), len(c.c.Passes) + 1, math.MaxInt} {
			for _, m := range modes() {
				rejectTruncate(t, c.c, n, m, c.want)
			}
		}
	}
	for _, c := range []api.Coded{{}, coded(1, 0, 0, 0), coded(1, 1, 4, 4), coded(60, 178, 9, 9), coded(60, 177, 9, 9)} {
		for _, n := range []int{math.MinInt, -1 << 32, -2, -1, len(c.Passes) + 1, len(c.Passes) + 2, 1 << 32, 1<<32 + 1, math.MaxInt} {
			for _, m := range modes() {
				rejectTruncate(t, c, n, m, api.ErrRange)
			}
		}
	}
}

// P17.6
func TestPlanes(t *testing.T) {
	for _, m := range modes() {
		for planes := range 61 {
			for _, v := range []int{1 << planes >> 1, 1<<planes - 1} {
				for _, values := range [][]int{{v, 0, 0}, {0, -v, 0}, {v / 2, v, -v}} {
					c := encode(t, values, 1, 3, api.HL, m)
					if c.Planes != planes || len(c.Passes) != max(0, 3*planes-2) {
						t.Fatalf("%v has %d planes and %d passes", values, c.Planes, len(c.Passes))
					}
				}
			}
		}
	}
}

// P17.6, and the example 1 of the chapter
func TestZeros(t *testing.T) {
	sizes(func(w, h int) {
		for _, m := range modes() {
			for _, o := range orients() {
				if c := encode(t, make([]int, w*h), w, h, o, m); !equal(c, api.Coded{}) {
					t.Fatalf("%d by %d zeros in %v are coded as %v", w, h, m, c)
				}
			}
		}
	})
}

// The examples 2 and 3 of the chapter.
func TestExamples(t *testing.T) {
	for v, data := range map[int]byte{1: 0x80, -1: 0xC0} {
		for _, o := range orients() {
			want := api.Coded{Planes: 1, Passes: []int{1}, Data: []byte{data}}
			if c := encode(t, []int{v}, 1, 1, o, api.Mode{}); !equal(c, want) {
				t.Errorf("%d is coded as %v", v, c)
			}
		}
	}
}

// Rule R6
func TestArgumentsStay(t *testing.T) {
	values := []int{5, -3, 0, 9, 77, 78}
	encode(t, values[:4], 2, 2, api.LH, api.Mode{Symbols: true})
	if !slices.Equal(values, []int{5, -3, 0, 9, 77, 78}) {
		t.Errorf("Encode changes its values: %v", values)
	}
	entries, data := []int{1, 2, 2, 3, 77, 78}, []byte{1, 2, 3, 77, 78}
	c := api.Coded{Planes: 2, Passes: entries[:4], Data: data[:3]}
	for n := range 5 {
		truncate(t, c, n, api.Mode{})
	}
	if !slices.Equal(entries, []int{1, 2, 2, 3, 77, 78}) || !bytes.Equal(data, []byte{1, 2, 3, 77, 78}) {
		t.Errorf("Truncate changes its block: %v, %v", entries, data)
	}
}

// Rule R6
func TestResultsAreIndependent(t *testing.T) {
	c := api.Coded{Planes: 2, Passes: []int{1, 2, 2, 3}, Data: []byte{1, 2, 3}}
	for n := range 5 {
		got := truncate(t, c, n, api.Mode{})
		for i := range got.Passes[:cap(got.Passes)] {
			got.Passes[:cap(got.Passes)][i] = 9
		}
		for i := range got.Data[:cap(got.Data)] {
			got.Data[:cap(got.Data)][i] = 9
		}
		if !slices.Equal(c.Passes, []int{1, 2, 2, 3}) || !bytes.Equal(c.Data, []byte{1, 2, 3}) {
			t.Fatalf("Truncate to %d passes shares memory with its block", n)
		}
	}
	values := []int{5, -3, 0, 9}
	first := encode(t, values, 2, 2, api.LH, api.Mode{Bypass: true})
	want := model(t, values, 2, 2, api.LH, api.Mode{Bypass: true})
	clear(values)
	encode(t, []int{7, 7, 7, 7}, 2, 2, api.LH, api.Mode{Bypass: true})
	if !equal(first, want) {
		t.Error("a coded block changes later")
	}
}
