package encpass_test

import (
	"math"
	"math/big"
	"math/rand/v2"
	"slices"
	"testing"

	"wavelet/api"
	"wavelet/cblk"
	"wavelet/context"
	"wavelet/encpass"
)

const most = 1<<60 - 1 // the highest absolute value of a coefficient

// coefficient is a coefficient with its flags.
type coefficient struct {
	value                         int
	significant, touched, refined bool
}

// model is a block whose passes follow the definitions of the chapter.
type model struct {
	w, h    int
	cells   map[api.Point]*coefficient
	symbols []api.Symbol // of the present pass
	// The arguments of the present pass.
	weight int
	orient api.Orient
	causal bool
	raw    bool
}

func newModel(w, h int) *model {
	m := &model{w: w, h: h, cells: map[api.Point]*coefficient{}}
	for y := range h {
		for x := range w {
			m.cells[api.Point{X: x, Y: y}] = &coefficient{}
		}
	}
	return m
}

// visible returns a significant neighbor of p at the distance (dx, dy), or nil.
func (m *model) visible(p api.Point, dx, dy int) *coefficient {
	if m.causal && dy == 1 && p.Y%4 == 3 {
		return nil
	}
	if c := m.cells[api.Point{X: p.X + dx, Y: p.Y + dy}]; c != nil && c.significant {
		return c
	}
	return nil
}

func (m *model) count(p api.Point, list ...[2]int) int {
	n := 0
	for _, d := range list {
		if m.visible(p, d[0], d[1]) != nil {
			n++
		}
	}
	return n
}

// neighbors returns the numbers h, v and d.
func (m *model) neighbors(p api.Point) (h, v, d int) {
	h = m.count(p, [2]int{-1, 0}, [2]int{1, 0})
	v = m.count(p, [2]int{0, -1}, [2]int{0, 1})
	d = m.count(p, [2]int{-1, -1}, [2]int{1, -1}, [2]int{-1, 1}, [2]int{1, 1})
	return h, v, d
}

func (m *model) near(p api.Point) bool {
	h, v, d := m.neighbors(p)
	return h+v+d > 0
}

// joint returns the joint sign of the neighbors at the distances (dx, dy) and (-dx, -dy).
func (m *model) joint(p api.Point, dx, dy int) int {
	sum := 0
	for _, c := range []*coefficient{m.visible(p, dx, dy), m.visible(p, -dx, -dy)} {
		switch {
		case c == nil:
		case c.value < 0:
			sum--
		default:
			sum++
		}
	}
	return max(-1, min(sum, 1))
}

func (m *model) put(ctx, bit int) {
	if m.raw {
		ctx = -1
	}
	m.symbols = append(m.symbols, api.Symbol{Context: ctx, Bit: bit})
}

// bit returns the digit of the weight of the pass.
func (m *model) bit(p api.Point) int {
	v := big.NewInt(int64(m.cells[p].value))
	return int(v.Abs(v).Bit(m.weight))
}

func (m *model) codeSign(p api.Point) {
	c := m.cells[p]
	n := 0
	if c.value < 0 {
		n = 1
	}
	ctx, flip := context.Sign(m.joint(p, 1, 0), m.joint(p, 0, 1))
	if !m.raw {
		n ^= flip
	}
	m.put(ctx, n)
	c.significant = true
}

func (m *model) codeBit(p api.Point) {
	h, v, d := m.neighbors(p)
	m.put(context.Significance(m.orient, h, v, d), m.bit(p))
	if m.bit(p) == 1 {
		m.codeSign(p)
	}
}

func (m *model) significance() {
	for _, p := range cblk.Scan(m.w, m.h) {
		if c := m.cells[p]; !c.significant && m.near(p) {
			m.codeBit(p)
			c.touched = true
		}
	}
}

func (m *model) refinement() {
	for _, p := range cblk.Scan(m.w, m.h) {
		if c := m.cells[p]; c.significant && !c.touched {
			m.put(context.Refine(!c.refined, m.near(p)), m.bit(p))
			c.refined, c.touched = true, true
		}
	}
}

// codeRun codes a run length if the column has one, and returns the rows that remain.
func (m *model) codeRun(column []api.Point) []api.Point {
	if len(column) < 4 {
		return column
	}
	first := 4
	for i, p := range column {
		if m.cells[p].significant || m.cells[p].touched || m.near(p) {
			return column
		}
		if first == 4 && m.bit(p) == 1 {
			first = i
		}
	}
	if first == 4 {
		m.put(17, 0)
		return nil
	}
	m.put(17, 1)
	m.put(18, first/2)
	m.put(18, first%2)
	m.codeSign(column[first])
	return column[first+1:]
}

func (m *model) cleanup(symbols bool) {
	for points := cblk.Scan(m.w, m.h); len(points) > 0; {
		n := 0
		for n < len(points) && points[n].X == points[0].X && points[n].Y/4 == points[0].Y/4 {
			n++
		}
		for _, p := range m.codeRun(points[:n]) {
			if c := m.cells[p]; !c.significant && !c.touched {
				m.codeBit(p)
			}
		}
		points = points[n:]
	}
	for _, c := range m.cells {
		c.touched = false
	}
	if symbols {
		for i := range 4 {
			m.put(18, 1-i%2)
		}
	}
}

// run performs a pass of the definition and returns its symbols.
func (m *model) run(pass, planes int, o api.Orient, mode api.Mode) []api.Symbol {
	plane, kind := (pass+2)/3, (pass+2)%3
	m.symbols, m.orient, m.causal = nil, o, mode.Causal
	m.weight = planes - 1 - plane
	m.raw = mode.Bypass && plane >= 4 && kind != 2
	switch kind {
	case 0:
		m.significance()
	case 1:
		m.refinement()
	case 2:
		m.cleanup(mode.Symbols)
	}
	return m.symbols
}

// apply sets a coefficient of a block.
func apply(b *cblk.Block, p api.Point, c coefficient) bool {
	ok := b.Set(p.X, p.Y, c.value) == api.OK && b.Touch(p.X, p.Y, c.touched) == api.OK
	if c.significant {
		ok = ok && b.Mark(p.X, p.Y) == api.OK
	}
	if c.refined {
		ok = ok && b.Refine(p.X, p.Y) == api.OK
	}
	return ok
}

// block returns a block like the model.
func (m *model) block(t *testing.T) *cblk.Block {
	t.Helper()
	b, e := cblk.New(m.w, m.h)
	if e != api.OK {
		t.Fatalf("New(%d, %d) = %d", m.w, m.h, e)
	}
	for p, c := range m.cells {
		if !apply(b, p, *c) {
			t.Fatalf("%v cannot be set to %v", p, *c)
		}
	}
	return b
}

// compare checks that the block is like the model.
func compare(t *testing.T, b *cblk.Block, m *model) {
	t.Helper()
	for p, c := range m.cells {
		got := coefficient{b.Value(p.X, p.Y), b.Significant(p.X, p.Y), b.Touched(p.X, p.Y), b.Refined(p.X, p.Y)}
		if got != *c {
			t.Fatalf("%d by %d: %v is %v; expected %v", m.w, m.h, p, got, *c)
		}
	}
}

// step performs a pass on the block and on the model, and compares them.
func step(t *testing.T, b *cblk.Block, m *model, pass, planes int, o api.Orient, mode api.Mode) {
	t.Helper()
	want := m.run(pass, planes, o, mode)
	got, e := encpass.Run(b, pass, planes, o, mode)
	if e != api.OK || !slices.Equal(got, want) {
		t.Fatalf("%d by %d: Run(%d, %d, %d, %v) = %v, %d; expected %v", m.w, m.h, pass, planes, o, mode, got, e, want)
	}
	compare(t, b, m)
}

// sizes calls f for many small sizes, and for some of the largest ones.
func sizes(f func(w, h int)) {
	for w := 1; w <= 5; w++ {
		for h := 1; h <= 9; h++ {
			f(w, h)
		}
	}
	for _, s := range [][2]int{{64, 1}, {1, 64}, {64, 4}, {3, 63}, {63, 5}, {6, 62}} {
		f(s[0], s[1])
	}
}

// modes are all combinations of a Mode's fields.
func modes() []api.Mode {
	var l []api.Mode
	for n := range 32 {
		l = append(l, api.Mode{Bypass: n&1 != 0, Restart: n&2 != 0, Reset: n&4 != 0, Causal: n&8 != 0, Symbols: n&16 != 0})
	}
	return l
}

func orients() []api.Orient { return []api.Orient{api.LL, api.HL, api.LH, api.HH} }

// number returns a random value of at most so many planes, often a small one.
func number(source *rand.Rand, planes int) int {
	v := int(source.Uint64N(1 << source.IntN(planes+1)))
	if source.IntN(2) == 0 {
		return -v
	}
	return v
}

// sparse returns values most of which are 0.
func sparse(source *rand.Rand, n, planes int) []int {
	values := make([]int, n)
	rare := 1 + source.IntN(12)
	for i := range values {
		if source.IntN(rare) == 0 {
			values[i] = number(source, planes)
		}
	}
	return values
}

// scattered returns a model with random values and flags, some of them alike to those that passes leave.
func scattered(source *rand.Rand, w, h int) *model {
	m := newModel(w, h)
	rare := 1 + source.IntN(20)
	for _, p := range cblk.Scan(w, h) {
		c := m.cells[p]
		c.value = number(source, 60)
		c.significant = source.IntN(rare) == 0
		c.touched = source.IntN(2*rare) == 0
		c.refined = source.IntN(3) == 0
	}
	return m
}

// P15.1
func TestRunOnAnyBlock(t *testing.T) {
	source := rand.New(rand.NewPCG(15, 1))
	sizes(func(w, h int) {
		for _, mode := range modes() {
			m := scattered(source, w, h)
			planes := 1 + source.IntN(60)
			pass := source.IntN(3*planes - 2)
			step(t, m.block(t), m, pass, planes, orients()[source.IntN(4)], mode)
		}
	})
}

// P15.1
func TestRunOfEachPass(t *testing.T) {
	source := rand.New(rand.NewPCG(15, 2))
	for _, planes := range []int{1, 2, 3, 5, 59, 60} {
		for pass := range 3*planes - 2 {
			for _, o := range orients() {
				m := scattered(source, 3, 7)
				step(t, m.block(t), m, pass, planes, o, modes()[source.IntN(32)])
			}
		}
	}
}

// P15.1
func TestRunInAnyOrderOfPasses(t *testing.T) {
	source := rand.New(rand.NewPCG(15, 3))
	sizes(func(w, h int) {
		m := scattered(source, w, h)
		b := m.block(t)
		for range 12 {
			planes := 1 + source.IntN(60)
			step(t, b, m, source.IntN(3*planes-2), planes, orients()[source.IntN(4)], modes()[source.IntN(32)])
		}
	})
}

// P15.1: digits of weights above those of the planes are not looked at.
func TestRunOfGreaterValues(t *testing.T) {
	for _, v := range []int{most, -most, 1 << 59, -1 << 59, 1<<59 + 1, 6, -7} {
		for planes := 1; planes <= 60; planes++ {
			m := newModel(1, 1)
			m.cells[api.Point{}].value = v
			step(t, m.block(t), m, 0, planes, api.HH, api.Mode{})
			low := newModel(1, 1)
			low.cells[api.Point{}].value = v % (1 << planes)
			if got, e := encpass.Run(low.block(t), 0, planes, api.HH, api.Mode{}); e != api.OK || !slices.Equal(got, m.symbols) {
				t.Fatalf("%d and %d with %d planes: %v and %v, %d", v, v%(1<<planes), planes, m.symbols, got, e)
			}
		}
	}
}

// badOrients are numbers that are no orientations.
func badOrients() []api.Orient {
	return []api.Orient{math.MinInt, -1 << 32, -4, -1, 4, 5, 7, 256, 1 << 32, 1<<32 + 1, math.MaxInt}
}

// badPasses are pairs of a pass and a number of planes at least one of which is not in its range.
func badPasses() [][2]int {
	var l [][2]int
	for _, planes := range []int{math.MinInt, -1 << 62, -1 << 32, -60, -2, -1, 0, 61, 62, 64, 1 << 32, 1<<32 + 1, 1 << 62, math.MaxInt/3 + 2, math.MaxInt} {
		for _, pass := range []int{math.MinInt, -1, 0, 1, 177, math.MaxInt} {
			l = append(l, [2]int{pass, planes})
		}
	}
	for planes := 1; planes <= 60; planes++ {
		for _, pass := range []int{math.MinInt, math.MinInt + 1, -1 << 32, -2, -1, 3*planes - 2, 3*planes - 1, 3 * planes, 1 << 32, math.MaxInt - 1, math.MaxInt} {
			l = append(l, [2]int{pass, planes})
		}
	}
	return l
}

// P15.1
func TestRunRejects(t *testing.T) {
	m := scattered(rand.New(rand.NewPCG(15, 4)), 3, 5)
	b := m.block(t)
	for _, mode := range []api.Mode{{}, {Bypass: true, Causal: true, Symbols: true}} {
		for _, p := range badPasses() {
			for _, o := range append(badOrients(), orients()...) {
				if l, e := encpass.Run(b, p[0], p[1], o, mode); len(l) != 0 || e != api.ErrRange {
					t.Fatalf("Run(%d, %d, %d) = %v, %d", p[0], p[1], o, l, e)
				}
			}
		}
		for _, o := range badOrients() {
			for pass := range 178 {
				if l, e := encpass.Run(b, pass, 60, o, mode); len(l) != 0 || e != api.ErrKind {
					t.Fatalf("Run(%d, 60, %d) = %v, %d", pass, o, l, e)
				}
			}
		}
	}
	compare(t, b, m)
}

// P15.1, rule R7
func TestRunOnForeignBlocks(t *testing.T) {
	m := scattered(rand.New(rand.NewPCG(15, 5)), 3, 5)
	b := m.block(t)
	duplicate := *b
	for name, other := range map[string]*cblk.Block{"nil": nil, "zero": {}, "copied": &duplicate} {
		for _, p := range [][2]int{{0, 1}, {3, 2}, {177, 60}, {-1, 1}, {1, 1}, {0, 0}, {0, 61}, {math.MaxInt, math.MinInt}} {
			for _, o := range append(badOrients(), orients()...) {
				if l, e := encpass.Run(other, p[0], p[1], o, api.Mode{Symbols: true}); len(l) != 0 || e != api.ErrState {
					t.Errorf("%s: Run(%d, %d, %d) = %v, %d", name, p[0], p[1], o, l, e)
				}
			}
		}
	}
	compare(t, b, m)
}

// P15.1: signs are flipped, but not in raw passes.
func TestSignsOfRawPasses(t *testing.T) {
	values := []int{-31, -1} // the second one becomes significant in the raw pass of plane 4
	flipped := coded(t, values, 1, 2, api.LL, api.Mode{})
	raw := coded(t, values, 1, 2, api.LL, api.Mode{Bypass: true})
	if l := flipped[10]; !slices.Equal(l, pairs([2]int{3, 1}, [2]int{10, 0})) {
		t.Errorf("the coded pass is %v", l)
	}
	if l := raw[10]; !slices.Equal(l, pairs([2]int{-1, 1}, [2]int{-1, 1})) {
		t.Errorf("the raw pass is %v", l)
	}
	if l := raw[11]; !slices.Equal(l, pairs([2]int{-1, 1})) {
		t.Errorf("the raw refinement pass is %v", l)
	}
}

// planesOf returns the number of planes of the definition.
func planesOf(values []int) int {
	n := 0
	for _, v := range values {
		a := new(big.Int).Abs(big.NewInt(int64(v)))
		for a.Cmp(new(big.Int).Lsh(big.NewInt(1), uint(n))) >= 0 {
			n++
		}
	}
	return n
}

// P15.2
func TestPlanes(t *testing.T) {
	for _, values := range [][]int{nil, {}, {0}, {0, 0, 0}} {
		if n := encpass.Planes(values); n != 0 {
			t.Errorf("Planes(%v) = %d", values, n)
		}
	}
	for k := range 63 {
		for _, d := range []int{-1, 0, 1} {
			v := 1<<k + d
			want := k + 1
			if d == -1 {
				want = k
			}
			if k == 0 && d == 1 {
				want = 2
			}
			for _, values := range [][]int{{v}, {-v}, {0, v, 0}, {-v, 0}, {v, -v}} {
				if n := encpass.Planes(values); n != want {
					t.Errorf("Planes(%v) = %d; expected %d", values, n, want)
				}
			}
		}
	}
	for _, c := range []struct {
		values []int
		want   int
	}{
		{[]int{math.MinInt}, 64}, {[]int{math.MinInt + 1}, 63}, {[]int{math.MaxInt}, 63}, {[]int{0, math.MinInt, 5}, 64}, {[]int{math.MaxInt, math.MinInt}, 64}, {[]int{math.MinInt, math.MaxInt}, 64}, {[]int{-1 << 62, 1<<62 - 1}, 63},
	} {
		if n := encpass.Planes(c.values); n != c.want {
			t.Errorf("Planes(%v) = %d; expected %d", c.values, n, c.want)
		}
	}
}

// P15.2
func TestPlanesOfManyValues(t *testing.T) {
	source := rand.New(rand.NewPCG(15, 6))
	for range 3000 {
		values := make([]int, source.IntN(8))
		shift := source.IntN(64)
		for i := range values {
			values[i] = int(source.Uint64()) >> shift
		}
		if got, want := encpass.Planes(values), planesOf(values); got != want {
			t.Errorf("Planes(%v) = %d; expected %d", values, got, want)
		}
	}
	if n := encpass.Planes(make([]int, 1<<20)); n != 0 {
		t.Errorf("Planes of 2^20 zeros is %d", n)
	}
}

// symbols returns what Symbols should.
func symbols(values []int, w, h int, o api.Orient, mode api.Mode) [][]api.Symbol {
	m := newModel(w, h)
	for i, v := range values {
		m.cells[api.Point{X: i % w, Y: i / w}].value = v
	}
	var l [][]api.Symbol
	planes := planesOf(values)
	for pass := 0; pass <= 3*planes-3; pass++ {
		l = append(l, m.run(pass, planes, o, mode))
	}
	return l
}

func equal(a, b [][]api.Symbol) bool { return slices.EqualFunc(a, b, slices.Equal[[]api.Symbol]) }

// coded returns the symbols of a block.
func coded(t *testing.T, values []int, w, h int, o api.Orient, mode api.Mode) [][]api.Symbol {
	t.Helper()
	l, e := encpass.Symbols(values, w, h, o, mode)
	if e != api.OK {
		t.Fatalf("Symbols(%v, %d, %d, %d, %v) = %d", values, w, h, o, mode, e)
	}
	return l
}

// blocks calls f for the values of many blocks, in all orientations and modes.
func blocks(seed uint64, f func(values []int, w, h int, o api.Orient, mode api.Mode)) {
	source := rand.New(rand.NewPCG(15, seed))
	sizes(func(w, h int) {
		for i, mode := range modes() {
			planes := 1 + source.IntN(8)
			if i%8 == 0 {
				planes = 1 + source.IntN(60)
			}
			f(sparse(source, w*h, planes), w, h, orients()[(w+h+i)%4], mode)
		}
	})
	f(sparse(source, 4096, 12), 64, 64, api.HL, api.Mode{Bypass: true})
}

// P15.3
func TestSymbols(t *testing.T) {
	blocks(7, func(values []int, w, h int, o api.Orient, mode api.Mode) {
		if got, want := coded(t, values, w, h, o, mode), symbols(values, w, h, o, mode); !equal(got, want) {
			t.Fatalf("Symbols(%v, %d, %d, %d, %v) = %v; expected %v", values, w, h, o, mode, got, want)
		}
	})
}

// P15.3
func TestSymbolsOfSmallBlocks(t *testing.T) {
	for _, size := range [][2]int{{1, 4}, {2, 2}, {4, 1}} {
		for n := range 7 * 7 * 7 * 7 {
			values := []int{n%7 - 3, n/7%7 - 3, n/49%7 - 3, n/343 - 3}
			for _, mode := range []api.Mode{{}, {Causal: true, Symbols: true}} {
				o := orients()[n%4]
				if got, want := coded(t, values, size[0], size[1], o, mode), symbols(values, size[0], size[1], o, mode); !equal(got, want) {
					t.Fatalf("Symbols(%v, %v, %d, %v) = %v; expected %v", values, size, o, mode, got, want)
				}
			}
		}
	}
}

// P15.3
func TestSymbolsOfZeros(t *testing.T) {
	sizes(func(w, h int) {
		for _, mode := range modes() {
			if l := coded(t, make([]int, w*h), w, h, api.LH, mode); len(l) != 0 {
				t.Errorf("%d by %d zeros have %d passes", w, h, len(l))
			}
		}
	})
}

// P15.3
func TestSymbolsOfGreatValues(t *testing.T) {
	for _, mode := range modes() {
		for _, values := range [][]int{{most, -most, 0, 1}, {0, 0, 0, -1 << 59}, {1, 1 << 59, -1, 1<<59 - 1}} {
			got := coded(t, values, 1, 4, api.HH, mode)
			if len(got) != 178 || !equal(got, symbols(values, 1, 4, api.HH, mode)) {
				t.Errorf("Symbols(%v) has %d passes, not as expected", values, len(got))
			}
		}
	}
}

// P15.3
func TestSymbolsRejects(t *testing.T) {
	great := []int{1 << 60, -1 << 60, 1<<60 + 1, -1<<60 - 1, 1 << 62, math.MaxInt, math.MinInt, math.MinInt + 1}
	reject := func(values []int, w, h int, o api.Orient, want api.Errno) {
		t.Helper()
		if l, e := encpass.Symbols(values, w, h, o, api.Mode{Symbols: true}); len(l) != 0 || e != want {
			t.Errorf("Symbols of %d values, %d, %d, %d: %v, %d; expected %d", len(values), w, h, o, l, e, want)
		}
	}
	orientations := append(badOrients(), orients()...)
	for _, bad := range []int{math.MinInt, -1 << 32, -64, -2, -1, 0, 65, 66, 128, 1<<32 + 1, 1 << 62, math.MaxInt} {
		for _, s := range [][2]int{{bad, 1}, {bad, 64}, {1, bad}, {64, bad}, {bad, bad}} {
			for _, values := range [][]int{nil, {}, {1}, great, make([]int, 64), make([]int, 65)} {
				for _, o := range orientations {
					reject(values, s[0], s[1], o, api.ErrRange)
				}
			}
		}
	}
	for _, o := range orientations {
		for _, s := range [][2]int{{1, 1}, {2, 3}, {8, 1}, {64, 64}} {
			n := s[0] * s[1]
			reject(nil, s[0], s[1], o, api.ErrLength)
			reject([]int{}, s[0], s[1], o, api.ErrLength)
			reject(make([]int, n-1), s[0], s[1], o, api.ErrLength)
			reject(make([]int, n+1), s[0], s[1], o, api.ErrLength)
			reject(append(make([]int, n), great...), s[0], s[1], o, api.ErrLength)
		}
	}
	for _, o := range badOrients() {
		reject(make([]int, 8), 2, 4, o, api.ErrKind)
		reject(great, 2, 4, o, api.ErrKind)
		reject([]int{1}, 1, 1, o, api.ErrKind)
	}
	for _, o := range orients() {
		for _, v := range great {
			for i := range 6 {
				values := make([]int, 6)
				values[i] = v
				reject(values, 3, 2, o, api.ErrRange)
			}
		}
	}
}

// P15.4
func TestContextsOfSymbols(t *testing.T) {
	blocks(8, func(values []int, w, h int, o api.Orient, mode api.Mode) {
		for pass, list := range coded(t, values, w, h, o, mode) {
			raw := cblk.Raw(pass, mode)
			for _, s := range list {
				if s.Bit != 0 && s.Bit != 1 || raw && s.Context != -1 || !raw && (s.Context < 0 || s.Context >= context.Contexts) {
					t.Fatalf("pass %d has the symbol %v in %v", pass, s, mode)
				}
			}
		}
	})
}

// P15.5
func TestPassesLookAtTheirPlanes(t *testing.T) {
	blocks(9, func(values []int, w, h int, o api.Orient, mode api.Mode) {
		planes := encpass.Planes(values)
		whole := coded(t, values, w, h, o, mode)
		for k := 0; k < planes; k += 1 + planes/6 {
			cut := make([]int, len(values))
			for i, v := range values {
				cut[i] = v / (1 << k) * (1 << k) // rounds toward 0
			}
			n := 3*(planes-k) - 2
			if got := coded(t, cut, w, h, o, mode); len(got) != len(whole) || !equal(got[:n], whole[:n]) {
				t.Fatalf("%v without %d planes: %v; with them %v", values, k, got, whole)
			}
		}
	})
}

// bitsOf returns how many symbols of a pass are bits of coefficients, plus how many coefficients have their bits in run lengths.
func bitsOf(list []api.Symbol, raw, significance bool) int {
	n := 0
	for i := 0; i < len(list); i++ {
		switch s := list[i]; {
		case raw:
			n++
			if significance && s.Bit == 1 {
				i++ // the sign
			}
		case s.Context <= 8 || 14 <= s.Context && s.Context <= 16:
			n++
		case s.Context == context.RunLength && s.Bit == 0:
			n += 4
		case s.Context == context.RunLength:
			n += 2*list[i+1].Bit + list[i+2].Bit + 1
		}
	}
	return n
}

// P15.6
func TestPlanesCodeEachCoefficientOnce(t *testing.T) {
	blocks(10, func(values []int, w, h int, o api.Orient, mode api.Mode) {
		sums := make([]int, encpass.Planes(values))
		for pass, list := range coded(t, values, w, h, o, mode) {
			plane, kind := cblk.Pass(pass)
			sums[plane] += bitsOf(list, cblk.Raw(pass, mode), kind == 0)
		}
		for plane, n := range sums {
			if n != w*h {
				t.Fatalf("plane %d of %d by %d coefficients has %d bits in %v", plane, w, h, n, mode)
			}
		}
	})
}

// Rules R5 and R6
func TestArgumentsAndResultsAreIndependent(t *testing.T) {
	memory := []int{3, -1, 0, 7, 9, 9}
	values := memory[:4]
	l := coded(t, values, 2, 2, api.LL, api.Mode{Symbols: true})
	if encpass.Planes(values) != 3 || !slices.Equal(memory, []int{3, -1, 0, 7, 9, 9}) {
		t.Errorf("the values have become %v", memory)
	}
	want := symbols([]int{3, -1, 0, 7}, 2, 2, api.LL, api.Mode{Symbols: true})
	for pass, list := range l {
		rest := list[len(list):cap(list)]
		clear(rest)
		_ = append(list, api.Symbol{Context: 99, Bit: 99})
		if !equal(l, want) {
			t.Fatalf("behind pass %d lies another one", pass)
		}
	}
	clear(values)
	if !equal(l, want) {
		t.Error("the symbols depend on values that were changed later")
	}
	clear(l[0])
	if !equal(l[1:], want[1:]) || !equal(coded(t, []int{3, -1, 0, 7}, 2, 2, api.LL, api.Mode{Symbols: true}), want) {
		t.Error("the symbols share memory")
	}
}

// pairs returns symbols from pairs of a context and a bit.
func pairs(list ...[2]int) []api.Symbol {
	var l []api.Symbol
	for _, p := range list {
		l = append(l, api.Symbol{Context: p[0], Bit: p[1]})
	}
	return l
}

// The example 1 of the chapter.
func TestExampleOfOneCoefficient(t *testing.T) {
	if l := coded(t, []int{-1}, 1, 1, api.LL, api.Mode{}); !equal(l, [][]api.Symbol{pairs([2]int{0, 1}, [2]int{9, 1})}) {
		t.Errorf("Symbols(-1) = %v", l)
	}
	want := pairs([2]int{0, 1}, [2]int{9, 1}, [2]int{18, 1}, [2]int{18, 0}, [2]int{18, 1}, [2]int{18, 0})
	if l := coded(t, []int{-1}, 1, 1, api.LL, api.Mode{Symbols: true}); !equal(l, [][]api.Symbol{want}) {
		t.Errorf("with check symbols Symbols(-1) = %v", l)
	}
}

// The example 2 of the chapter.
func TestExampleOfOneColumn(t *testing.T) {
	want := [][]api.Symbol{
		pairs([2]int{17, 1}, [2]int{18, 1}, [2]int{18, 0}, [2]int{9, 0}, [2]int{3, 0}),
		pairs([2]int{3, 0}, [2]int{3, 1}, [2]int{10, 0}),
		pairs([2]int{15, 1}),
		pairs([2]int{0, 0}),
	}
	if l := coded(t, []int{0, 0, 3, 1}, 1, 4, api.LL, api.Mode{}); !equal(l, want) {
		t.Errorf("Symbols(0, 0, 3, 1) = %v", l)
	}
}

// The example 3 of the chapter.
func TestExampleOfZeros(t *testing.T) {
	if l := coded(t, []int{0, 0}, 2, 1, api.LL, api.Mode{}); len(l) != 0 {
		t.Errorf("Symbols(0, 0) = %v", l)
	}
	if n := encpass.Planes([]int{5, -8}); n != 4 {
		t.Errorf("Planes(5, -8) = %d", n)
	}
}
