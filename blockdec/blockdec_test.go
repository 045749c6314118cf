package blockdec_test

import (
	"bytes"
	"math"
	"math/rand/v2"
	"slices"
	"testing"

	"wavelet/api"
	"wavelet/blockdec"
	"wavelet/blockenc"
	"wavelet/cblk"
	"wavelet/decpass"
)

const most = 1<<60 - 1 // the highest absolute value of a coefficient

// arithmetic decodes codewords by the definitions of chapter 11.
type arithmetic struct {
	rest         []byte
	value, width int
	chances      [19]int
}

func (a *arithmetic) reset() {
	for i := range a.chances {
		a.chances[i] = 2048
	}
}

func (a *arithmetic) next() int {
	if len(a.rest) == 0 {
		return 0
	}
	b := a.rest[0]
	a.rest = a.rest[1:]
	return int(b)
}

func (a *arithmetic) start(data []byte) {
	a.rest, a.value, a.width = data, 0, 1<<32-1
	for range 4 {
		a.value = 256*a.value + a.next()
	}
	a.value = min(a.value, 1<<32-2)
}

func (a *arithmetic) bit(ctx int) int {
	p := &a.chances[ctx]
	b := a.width / 4096 * *p
	bit := 0
	if a.value < b {
		a.width = b
		*p += (4096 - *p) / 32
	} else {
		bit = 1
		a.value -= b
		a.width -= b
		*p -= *p / 32
	}
	for a.width < 1<<24 {
		a.value = 256*a.value + a.next()
		a.width *= 256
	}
	return bit
}

// bitString reads the bits of bytes, and then bits 0.
type bitString struct {
	data []byte
	at   int
}

func (s *bitString) bit() int {
	i := s.at
	s.at++
	if i >= 8*len(s.data) {
		return 0
	}
	return int(s.data[i/8]) >> (7 - i%8) % 2
}

// isRaw reports whether a pass consists of raw bits (P14.7).
func isRaw(pass int, m api.Mode) bool { return m.Bypass && pass >= 10 && pass%3 != 0 }

// boundaries returns the numbers of the first passes of all segments (P14.8), and the number of all passes.
func boundaries(passes int, m api.Mode) []int {
	l := []int{0}
	for n := 1; n < passes; n++ {
		if m.Restart || m.Bypass && n >= 10 && n%3 != 2 {
			l = append(l, n)
		}
	}
	if passes > 0 {
		l = append(l, passes)
	}
	return l
}

// model returns the symbols of the first passes by the definitions of the chapter, and the first pass with wrong check symbols, or the number of passes.
func model(t *testing.T, c api.Coded, passes, w, h int, o api.Orient, m api.Mode) (list [][]api.Symbol, wrong int) {
	t.Helper()
	b, e := cblk.New(w, h)
	if e != api.OK {
		t.Fatalf("New(%d, %d) = %d", w, h, e)
	}
	decoder := &arithmetic{}
	decoder.reset()
	wrong = passes
	ends := boundaries(passes, m)
	from := 0
	for i, to := range ends[1:] {
		data := c.Data[from:c.Passes[to-1]]
		from += len(data)
		bits := &bitString{data: data}
		if !isRaw(ends[i], m) {
			decoder.start(data)
		}
		for pass := ends[i]; pass < to; pass++ {
			if m.Reset && !isRaw(pass, m) {
				decoder.reset()
			}
			var symbols []api.Symbol
			decpass.Run(b, pass, c.Planes, o, m, func(ctx int) int {
				s := api.Symbol{Context: ctx}
				if isRaw(pass, m) {
					s.Bit = bits.bit()
				} else {
					s.Bit = decoder.bit(ctx)
				}
				symbols = append(symbols, s)
				return s.Bit
			})
			list = append(list, symbols)
			if m.Symbols && pass%3 == 0 && pass < wrong && !checked(symbols) {
				wrong = pass
			}
		}
	}
	return list, wrong
}

// checked reports whether the last symbols are right check symbols.
func checked(symbols []api.Symbol) bool {
	n := len(symbols)
	return n >= 4 && symbols[n-4].Bit == 1 && symbols[n-3].Bit == 0 && symbols[n-2].Bit == 1 && symbols[n-1].Bit == 0
}

// compare checks Decode and Sound of the first passes against the definitions. It returns the first pass with wrong check symbols, or the number of passes.
func compare(t *testing.T, c api.Coded, passes, w, h int, o api.Orient, m api.Mode) int {
	t.Helper()
	symbols, wrong := model(t, c, passes, w, h, o, m)
	want := api.OK
	sound := passes
	if wrong < passes {
		want = api.ErrCorrupt
		sound = 0
		if plane := wrong / 3; plane > 0 {
			sound = 3*plane - 2
		}
	}
	values, missing, e := decpass.Values(symbols, c.Planes, w, h, o, m)
	if e != want {
		t.Fatalf("Values of %d passes of %v = %d; expected %d", passes, c, e, want)
	}
	gotValues, gotMissing, e := blockdec.Decode(c, passes, w, h, o, m)
	if e != want || !slices.Equal(gotValues, values) || !slices.Equal(gotMissing, missing) {
		t.Fatalf("%d by %d: Decode of %d passes of %v in %d, %v = %v, %v, %d; expected %v, %v, %d", w, h, passes, c, o, m, gotValues, gotMissing, e, values, missing, want)
	}
	if got, e := blockdec.Sound(c, passes, w, h, o, m); got != sound || e != api.OK {
		t.Fatalf("%d by %d: Sound of %d passes of %v in %d, %v = %d, %d; expected %d", w, h, passes, c, o, m, got, e, sound)
	}
	return wrong
}

// sizes calls f for many small sizes, and for some of the largest ones.
func sizes(f func(w, h int)) {
	for w := 1; w <= 5; w++ {
		for h := 1; h <= 9; h++ {
			f(w, h)
		}
	}
	for _, s := range [][2]int{{64, 1}, {1, 64}, {64, 4}, {3, 63}, {63, 5}, {6, 62}} {
		f(s[0], s[1])
	}
}

// modes are all combinations of a Mode's fields.
func modes() []api.Mode {
	var l []api.Mode
	for n := range 32 {
		l = append(l, api.Mode{Bypass: n&1 != 0, Restart: n&2 != 0, Reset: n&4 != 0, Causal: n&8 != 0, Symbols: n&16 != 0})
	}
	return l
}

func orients() []api.Orient { return []api.Orient{api.LL, api.HL, api.LH, api.HH} }

// number returns a random value of at most so many planes, often a small one.
func number(source *rand.Rand, planes int) int {
	v := int(source.Uint64N(1 << source.IntN(planes+1)))
	if source.IntN(2) == 0 {
		return -v
	}
	return v
}

// sparse returns values most of which are 0.
func sparse(source *rand.Rand, n, planes int) []int {
	values := make([]int, n)
	rare := 1 + source.IntN(12)
	for i := range values {
		if source.IntN(rare) == 0 {
			values[i] = number(source, planes)
		}
	}
	return values
}

// filler returns a function that returns bytes: any, zeros, ones, or mostly one of these.
func filler(source *rand.Rand) func() byte {
	kind := source.IntN(5)
	return func() byte {
		b := byte(source.IntN(256))
		rare := source.IntN(8) != 0
		switch {
		case kind == 1, kind == 3 && rare:
			return 0
		case kind == 2, kind == 4 && rare:
			return 255
		}
		return b
	}
}

// random returns a valid block of any bytes.
func random(source *rand.Rand) api.Coded {
	c := api.Coded{Planes: source.IntN(9)}
	if source.IntN(8) == 0 {
		c.Planes = source.IntN(61)
	}
	length := 1 + source.IntN(1<<source.IntN(9))
	for range source.IntN(max(1, 3*c.Planes-1)) {
		c.Passes = append(c.Passes, source.IntN(length))
	}
	slices.Sort(c.Passes)
	if n := len(c.Passes); n > 0 {
		fill := filler(source)
		for range c.Passes[n-1] {
			c.Data = append(c.Data, fill())
		}
	}
	return c
}

// P18.2, P18.3
func TestAnyBytes(t *testing.T) {
	source := rand.New(rand.NewPCG(18, 1))
	sizes(func(w, h int) {
		for _, m := range modes() {
			c := random(source)
			o := orients()[source.IntN(4)]
			compare(t, c, len(c.Passes), w, h, o, m)
			compare(t, c, source.IntN(len(c.Passes)+1), w, h, o, m)
		}
	})
}

// P18.1, P18.2, P18.3: the longest blocks.
func TestLongBlocks(t *testing.T) {
	source := rand.New(rand.NewPCG(18, 2))
	for _, m := range modes() {
		for _, length := range []int{0, 1, 300, 65535} {
			c := api.Coded{Planes: 60}
			for range 177 {
				c.Passes = append(c.Passes, source.IntN(length+1))
			}
			c.Passes = append(c.Passes, length)
			slices.Sort(c.Passes)
			for range length {
				c.Data = append(c.Data, byte(source.IntN(256)))
			}
			compare(t, c, 178, 5, 13, orients()[source.IntN(4)], m)
		}
	}
}

// encode returns the coded block of values.
func encode(t *testing.T, values []int, w, h int, o api.Orient, m api.Mode) api.Coded {
	t.Helper()
	c, e := blockenc.Encode(values, w, h, o, m)
	if e != api.OK {
		t.Fatalf("Encode of %d by %d values in %d, %v = %d", w, h, o, m, e)
	}
	return c
}

// damaged returns a block in which some bytes are others.
func damaged(source *rand.Rand, c api.Coded) api.Coded {
	c.Data = slices.Clone(c.Data)
	for range 1 + source.IntN(3) {
		if len(c.Data) > 0 {
			c.Data[source.IntN(len(c.Data))] ^= byte(1 + source.IntN(255))
		}
	}
	return c
}

// P18.2, P18.3: check symbols become wrong in any plane.
func TestDamagedBlocks(t *testing.T) {
	source := rand.New(rand.NewPCG(18, 3))
	planes := map[int]int{}
	sizes(func(w, h int) {
		for _, m := range modes() {
			if w*h < 4 {
				continue
			}
			o := orients()[source.IntN(4)]
			c := damaged(source, encode(t, sparse(source, w*h, 9), w, h, o, m))
			all := len(c.Passes)
			wrong := compare(t, c, all, w, h, o, m)
			if wrong == all {
				continue
			}
			planes[wrong/3]++
			for _, n := range []int{wrong - 1, wrong, wrong + 1} {
				if n >= 0 {
					compare(t, c, n, w, h, o, m)
				}
			}
		}
	})
	for plane := range 6 {
		if planes[plane] < 10 {
			t.Errorf("check symbols are wrong in the planes %v", planes)
		}
	}
}

// P18.2, P18.3: with fewer passes the last segment has fewer bytes, so that other check symbols can be wrong.
func TestSoundOfSound(t *testing.T) {
	source := rand.New(rand.NewPCG(18, 4))
	twice := 0
	for range 1000 {
		m := modes()[16+source.IntN(16)]
		c := damaged(source, encode(t, sparse(source, 35, 8), 5, 7, api.HL, m))
		n := len(c.Passes)
		for compare(t, c, n, 5, 7, api.HL, m) < n {
			if n < len(c.Passes) {
				twice++
			}
			n, _ = blockdec.Sound(c, n, 5, 7, api.HL, m)
		}
	}
	if twice == 0 {
		t.Error("what Sound returns is sound in all these blocks")
	}
}

// blocks calls f for the values of many blocks, in all orientations and modes.
func blocks(seed uint64, f func(values []int, w, h int, o api.Orient, m api.Mode)) {
	source := rand.New(rand.NewPCG(18, seed))
	sizes(func(w, h int) {
		for i, m := range modes() {
			planes := 1 + source.IntN(10)
			if i%8 == 0 {
				planes = 1 + source.IntN(60)
			}
			f(sparse(source, w*h, planes), w, h, orients()[source.IntN(4)], m)
		}
	})
	for i, m := range modes() {
		for _, values := range [][]int{{most, -most, 0, 1}, {0, 0, 0, -1 << 59}, {1, 1 << 59, -1, 1<<59 - 1}, {0, 0, 0, 0}} {
			f(values, 1, 4, api.LL, m)
			f(values, 2, 2, api.HH, m)
		}
		if i%5 == 0 {
			f(sparse(source, 4096, 11), 64, 64, api.LH, m)
		}
	}
}

// P18.4, P18.7
func TestRestoration(t *testing.T) {
	blocks(5, func(values []int, w, h int, o api.Orient, m api.Mode) {
		c := encode(t, values, w, h, o, m)
		got, missing, e := blockdec.Decode(c, len(c.Passes), w, h, o, m)
		if e != api.OK || !slices.Equal(got, values) || !slices.Equal(missing, make([]int, w*h)) {
			t.Fatalf("%v in %d, %v: the values are %v, missing %v, %d", values, o, m, got, missing, e)
		}
		if n, e := blockdec.Sound(c, len(c.Passes), w, h, o, m); n != len(c.Passes) || e != api.OK {
			t.Fatalf("%v in %v: %d of %d passes are sound, %d", values, m, n, len(c.Passes), e)
		}
	})
}

// steps returns the numbers from 0 to n, but not all if they are many.
func steps(n int) []int {
	var l []int
	for i := 0; i <= n; i += 1 + n/25 {
		l = append(l, i)
	}
	return l
}

// P18.5, P18.7
func TestPrefixes(t *testing.T) {
	blocks(6, func(values []int, w, h int, o api.Orient, m api.Mode) {
		c := encode(t, values, w, h, o, m)
		before := slices.Repeat([]int{c.Planes}, w*h)
		for _, n := range steps(len(c.Passes)) {
			got, missing, e := blockdec.Decode(c, n, w, h, o, m)
			if e != api.OK || len(got) != w*h || len(missing) != w*h {
				t.Fatalf("%d passes of %v: %v, missing %v, %d", n, values, got, missing, e)
			}
			for i, v := range values {
				if missing[i] < 0 || missing[i] > before[i] || n == 0 && missing[i] != c.Planes {
					t.Fatalf("%d passes of %v: missing %v, before them %v", n, values, missing, before)
				}
				if want := v / (1 << missing[i]) * (1 << missing[i]); got[i] != want {
					t.Fatalf("%d passes of %v: %v, missing %v", n, values, got, missing)
				}
			}
			if sound, e := blockdec.Sound(c, n, w, h, o, m); sound != n || e != api.OK {
				t.Fatalf("%d of %d passes are sound, %d", sound, n, e)
			}
			before = missing
		}
	})
}

// P18.6
func TestTruncatedBlocks(t *testing.T) {
	source := rand.New(rand.NewPCG(18, 7))
	for i := range 1500 {
		m := modes()[i%32]
		w, h, o := 1+source.IntN(6), 1+source.IntN(9), orients()[source.IntN(4)]
		c := random(source)
		if source.IntN(2) == 0 {
			c = encode(t, sparse(source, w*h, 9), w, h, o, m)
		}
		kept := source.IntN(len(c.Passes) + 1)
		n := source.IntN(kept + 1)
		cut, e := blockenc.Truncate(c, kept, m)
		if e != api.OK {
			t.Fatalf("Truncate of %v to %d = %d", c, kept, e)
		}
		for _, n := range []int{n, kept} {
			values, missing, e := blockdec.Decode(c, n, w, h, o, m)
			others, left, f := blockdec.Decode(cut, n, w, h, o, m)
			if e != f || !slices.Equal(values, others) || !slices.Equal(missing, left) {
				t.Fatalf("%d passes of %v: %v, %v, %d; if it has %d passes: %v, %v, %d", n, c, values, missing, e, kept, others, left, f)
			}
		}
	}
}

// P18.2: decoding does not look at the bytes behind those of the passes.
func TestBytesBehind(t *testing.T) {
	source := rand.New(rand.NewPCG(18, 8))
	for i := range 600 {
		m := modes()[i%32]
		c := encode(t, sparse(source, 20, 9), 4, 5, api.HH, m)
		if len(c.Passes) == 0 {
			continue
		}
		n := 1 + source.IntN(len(c.Passes))
		other := c
		other.Data = slices.Clone(c.Data)
		for j := c.Passes[n-1]; j < len(other.Data); j++ {
			other.Data[j] = byte(source.IntN(256))
		}
		values, missing, e := blockdec.Decode(c, n, 4, 5, api.HH, m)
		got, left, f := blockdec.Decode(other, n, 4, 5, api.HH, m)
		if e != api.OK || f != api.OK || !slices.Equal(values, got) || !slices.Equal(missing, left) {
			t.Fatalf("%d passes of %v: %v, %v, %d; with other bytes behind them: %v, %v, %d", n, c, values, missing, e, got, left, f)
		}
	}
}

// reject checks that Decode and Sound return an error and nothing else.
func reject(t *testing.T, c api.Coded, passes, w, h int, o api.Orient, want api.Errno) {
	t.Helper()
	for _, m := range []api.Mode{{}, {Symbols: true}, {Bypass: true, Restart: true, Reset: true, Causal: true, Symbols: true}} {
		if values, missing, e := blockdec.Decode(c, passes, w, h, o, m); e != want || len(values) != 0 || len(missing) != 0 {
			t.Fatalf("Decode of %d of %d passes of %d planes, %d by %d in %d = %v, %v, %d; expected %d", passes, len(c.Passes), c.Planes, w, h, o, values, missing, e, want)
		}
		if n, e := blockdec.Sound(c, passes, w, h, o, m); e != want || n != 0 {
			t.Fatalf("Sound of %d of %d passes of %d planes, %d by %d in %d = %d, %d; expected %d", passes, len(c.Passes), c.Planes, w, h, o, n, e, want)
		}
	}
}

// badSides are numbers that are no widths or heights.
func badSides() []int {
	return []int{math.MinInt, -1 << 32, -64, -2, -1, 0, 65, 66, 128, 1 << 32, 1<<32 + 1, 1 << 62, math.MaxInt}
}

// badOrients are numbers that are no orientations.
func badOrients() []api.Orient {
	return []api.Orient{math.MinInt, -1 << 32, -4, -1, 4, 5, 7, 256, 1 << 32, 1<<32 + 1, math.MaxInt}
}

// coded returns a block in which all passes have the same entry.
func coded(planes, passes, entry, length int) api.Coded {
	c := api.Coded{Planes: planes, Data: make([]byte, length)}
	for range passes {
		c.Passes = append(c.Passes, entry)
	}
	return c
}

// P18.1: the errors of Valid come first, in their order.
func TestInvalidBlocks(t *testing.T) {
	const long = 65536
	for _, c := range []struct {
		c    api.Coded
		want api.Errno
	}{
		{coded(-1, 0, 0, 0), api.ErrRange}, {coded(61, 1, 5, 3), api.ErrRange}, {coded(61, 181, long, long), api.ErrRange}, {coded(math.MinInt, 1, 0, 0), api.ErrRange}, {coded(math.MaxInt, 1, 0, 0), api.ErrRange},
		{coded(0, 1, 0, 0), api.ErrLength}, {coded(2, 5, 0, 0), api.ErrLength}, {coded(60, 179, long, long), api.ErrLength}, {coded(3, 3, -1, 0), api.ErrLength}, {coded(1, 1, math.MinInt, long), api.ErrLength},
		{api.Coded{Planes: 2, Passes: []int{1, 0, 1}, Data: []byte{1}}, api.ErrLength}, {coded(1, 1, 3, 2), api.ErrLength}, {coded(1, 1, 3, 4), api.ErrLength}, {coded(1, 1, math.MaxInt, 4), api.ErrLength}, {coded(0, 0, 0, 1), api.ErrLength}, {coded(9, 0, 0, long), api.ErrLength},
		{coded(1, 1, long, long), api.ErrLimit}, {coded(60, 178, long, long), api.ErrLimit},
	} {
		for _, passes := range []int{math.MinInt, -1, 0, 1, len(c.c.Passes), math.MaxInt} {
			for _, side := range []int{1, 64, 0, 65, math.MinInt, math.MaxInt} {
				for _, o := range []api.Orient{api.LL, api.HH, 4, -1} {
					reject(t, c.c, passes, side, 5, o, c.want)
					reject(t, c.c, passes, 5, side, o, c.want)
				}
			}
		}
	}
}

// P18.1
func TestRejects(t *testing.T) {
	for _, c := range []api.Coded{{}, coded(1, 0, 0, 0), coded(1, 1, 2, 2), coded(4, 7, 0, 0), coded(60, 178, 65535, 65535)} {
		all := len(c.Passes)
		for _, o := range append(badOrients(), orients()...) {
			for _, passes := range []int{math.MinInt, -1 << 32, -2, -1, all + 1, all + 2, 179, 1 << 32, 1<<32 + 1, math.MaxInt} {
				reject(t, c, passes, 1, 1, o, api.ErrRange)
				reject(t, c, passes, 0, 65, o, api.ErrRange)
			}
			for _, side := range badSides() {
				for _, passes := range []int{0, all} {
					reject(t, c, passes, side, 1, o, api.ErrRange)
					reject(t, c, passes, 64, side, o, api.ErrRange)
					reject(t, c, passes, side, side, o, api.ErrRange)
				}
			}
		}
		for _, o := range badOrients() {
			reject(t, c, 0, 1, 1, o, api.ErrKind)
			reject(t, c, all, 64, 64, o, api.ErrKind)
		}
	}
}

// P18.2, P18.3
func TestWithoutPasses(t *testing.T) {
	for planes := range 61 {
		for _, c := range []api.Coded{coded(planes, 0, 0, 0), coded(planes, max(0, 3*planes-2), 0, 0)} {
			for _, m := range modes() {
				values, missing, e := blockdec.Decode(c, 0, 3, 2, api.HH, m)
				if e != api.OK || !slices.Equal(values, make([]int, 6)) || !slices.Equal(missing, slices.Repeat([]int{planes}, 6)) {
					t.Fatalf("without passes of %d planes: %v, missing %v, %d", planes, values, missing, e)
				}
				if n, e := blockdec.Sound(c, 0, 3, 2, api.HH, m); n != 0 || e != api.OK {
					t.Fatalf("%d passes of none are sound, %d", n, e)
				}
			}
		}
	}
}

// Rule R6
func TestArgumentsStay(t *testing.T) {
	entries, data := []int{2, 3, 3, 4, 77, 78}, []byte{0xC0, 0x12, 0x34, 0x56, 77, 78}
	c := api.Coded{Planes: 2, Passes: entries[:4], Data: data[:4]}
	for _, m := range modes() {
		for n := range 5 {
			blockdec.Decode(c, n, 3, 5, api.LH, m)
			blockdec.Sound(c, n, 3, 5, api.LH, m)
		}
	}
	if !slices.Equal(entries, []int{2, 3, 3, 4, 77, 78}) || !bytes.Equal(data, []byte{0xC0, 0x12, 0x34, 0x56, 77, 78}) {
		t.Errorf("the block becomes %v, %v", entries, data)
	}
}

// Rule R6
func TestResultsAreIndependent(t *testing.T) {
	c := encode(t, []int{5, -3, 0, 9}, 2, 2, api.LH, api.Mode{})
	values, missing, e := blockdec.Decode(c, 5, 2, 2, api.LH, api.Mode{})
	want, left := slices.Clone(values), slices.Clone(missing)
	clear(c.Passes)
	clear(c.Data)
	blockdec.Decode(encode(t, []int{7, 7, 7, 7}, 2, 2, api.LH, api.Mode{}), 5, 2, 2, api.LH, api.Mode{})
	if e != api.OK || !slices.Equal(values, want) || !slices.Equal(missing, left) {
		t.Errorf("the results become %v, %v, %d", values, missing, e)
	}
	clear(values[:cap(values)])
	if !slices.Equal(missing, left) {
		t.Error("the values and the missing planes share memory")
	}
}

// expect checks the results of Decode and Sound for one coefficient.
func expect(t *testing.T, c api.Coded, passes int, m api.Mode, value, left int) {
	t.Helper()
	for _, o := range orients() {
		values, missing, e := blockdec.Decode(c, passes, 1, 1, o, m)
		if e != api.OK || !slices.Equal(values, []int{value}) || !slices.Equal(missing, []int{left}) {
			t.Errorf("%d passes of %v: %v, missing %v, %d", passes, c, values, missing, e)
		}
		if n, e := blockdec.Sound(c, passes, 1, 1, o, m); n != passes || e != api.OK {
			t.Errorf("%d passes of %v: %d are sound, %d", passes, c, n, e)
		}
	}
}

// The example 1 of the chapter.
func TestExampleOfOneByte(t *testing.T) {
	c := api.Coded{Planes: 1, Passes: []int{1}, Data: []byte{0xC0}}
	expect(t, c, 1, api.Mode{}, -1, 0)
	expect(t, c, 0, api.Mode{}, 0, 1)
}

// The examples 2 and 3 of the chapter.
func TestExampleWithoutBytes(t *testing.T) {
	c := api.Coded{Planes: 1, Passes: []int{0}}
	expect(t, c, 1, api.Mode{}, 0, 0)
	m := api.Mode{Symbols: true}
	values, missing, e := blockdec.Decode(c, 1, 1, 1, api.LL, m)
	if e != api.ErrCorrupt || len(values) != 0 || len(missing) != 0 {
		t.Errorf("wrong check symbols: %v, missing %v, %d", values, missing, e)
	}
	if n, e := blockdec.Sound(c, 1, 1, 1, api.LL, m); n != 0 || e != api.OK {
		t.Errorf("wrong check symbols: %d passes are sound, %d", n, e)
	}
}
