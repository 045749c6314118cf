package decpass_test

import (
	"math"
	"math/rand/v2"
	"slices"
	"testing"

	"wavelet/api"
	"wavelet/cblk"
	"wavelet/context"
	"wavelet/decpass"
	"wavelet/encpass"
)

const most = 1<<60 - 1 // the highest absolute value of a coefficient

// coefficient is a coefficient with its flags.
type coefficient struct {
	value                         int
	significant, touched, refined bool
}

// model is a block whose passes follow the definitions of the chapter.
type model struct {
	w, h  int
	cells map[api.Point]*coefficient
	next  func(ctx int) int
	coded map[api.Point]bool // whose bits were asked for in the present pass
	// The arguments of the present pass.
	power  int // the weight of its plane
	orient api.Orient
	causal bool
	raw    bool
}

func newModel(w, h int) *model {
	m := &model{w: w, h: h, cells: map[api.Point]*coefficient{}}
	for y := range h {
		for x := range w {
			m.cells[api.Point{X: x, Y: y}] = &coefficient{}
		}
	}
	return m
}

// visible returns a significant neighbor of p at the distance (dx, dy), or nil.
func (m *model) visible(p api.Point, dx, dy int) *coefficient {
	if m.causal && dy == 1 && p.Y%4 == 3 {
		return nil
	}
	if c := m.cells[api.Point{X: p.X + dx, Y: p.Y + dy}]; c != nil && c.significant {
		return c
	}
	return nil
}

func (m *model) count(p api.Point, list ...[2]int) int {
	n := 0
	for _, d := range list {
		if m.visible(p, d[0], d[1]) != nil {
			n++
		}
	}
	return n
}

// neighbors returns the numbers h, v and d.
func (m *model) neighbors(p api.Point) (h, v, d int) {
	h = m.count(p, [2]int{-1, 0}, [2]int{1, 0})
	v = m.count(p, [2]int{0, -1}, [2]int{0, 1})
	d = m.count(p, [2]int{-1, -1}, [2]int{1, -1}, [2]int{-1, 1}, [2]int{1, 1})
	return h, v, d
}

func (m *model) near(p api.Point) bool {
	h, v, d := m.neighbors(p)
	return h+v+d > 0
}

// joint returns the joint sign of the neighbors at the distances (dx, dy) and (-dx, -dy).
func (m *model) joint(p api.Point, dx, dy int) int {
	sum := 0
	for _, c := range []*coefficient{m.visible(p, dx, dy), m.visible(p, -dx, -dy)} {
		switch {
		case c == nil:
		case c.value < 0:
			sum--
		default:
			sum++
		}
	}
	return max(-1, min(sum, 1))
}

// ask returns whether the next bit is 1.
func (m *model) ask(ctx int) bool {
	if m.raw {
		ctx = -1
	}
	return m.next(ctx) != 0
}

func (m *model) readSign(p api.Point) {
	ctx, flip := context.Sign(m.joint(p, 1, 0), m.joint(p, 0, 1))
	negative := m.ask(ctx)
	if flip == 1 && !m.raw {
		negative = !negative
	}
	c := m.cells[p]
	c.significant = true
	c.value = m.power
	if negative {
		c.value = -m.power
	}
}

func (m *model) readBit(p api.Point) {
	h, v, d := m.neighbors(p)
	m.coded[p] = true
	if m.ask(context.Significance(m.orient, h, v, d)) {
		m.readSign(p)
	}
}

func (m *model) significance() {
	for _, p := range cblk.Scan(m.w, m.h) {
		if c := m.cells[p]; !c.significant && m.near(p) {
			m.readBit(p)
			c.touched = true
		}
	}
}

func (m *model) refinement() {
	for _, p := range cblk.Scan(m.w, m.h) {
		c := m.cells[p]
		if !c.significant || c.touched {
			continue
		}
		m.coded[p] = true
		if m.ask(context.Refine(!c.refined, m.near(p))) {
			switch {
			case c.value < 0 && c.value-m.power >= -most:
				c.value -= m.power
			case c.value >= 0 && c.value+m.power <= most:
				c.value += m.power
			}
		}
		c.refined, c.touched = true, true
	}
}

// readRun asks for a run length if the column has one, and returns the rows that remain.
func (m *model) readRun(column []api.Point) []api.Point {
	if len(column) < 4 {
		return column
	}
	for _, p := range column {
		if m.cells[p].significant || m.cells[p].touched || m.near(p) {
			return column
		}
	}
	if !m.ask(17) {
		return nil
	}
	if m.ask(18) {
		column = column[2:]
	}
	if m.ask(18) {
		column = column[1:]
	}
	m.readSign(column[0])
	return column[1:]
}

// cleanup performs a cleanup pass, and reports whether its check symbols are right.
func (m *model) cleanup(symbols bool) bool {
	for points := cblk.Scan(m.w, m.h); len(points) > 0; {
		n := 0
		for n < len(points) && points[n].X == points[0].X && points[n].Y/4 == points[0].Y/4 {
			n++
		}
		for _, p := range m.readRun(points[:n]) {
			if c := m.cells[p]; !c.significant && !c.touched {
				m.readBit(p)
			}
		}
		points = points[n:]
	}
	for _, c := range m.cells {
		c.touched = false
	}
	right := true
	for i := 0; symbols && i < 4; i++ {
		if m.ask(18) != (i%2 == 0) {
			right = false
		}
	}
	return right
}

// run performs a pass of the definition.
func (m *model) run(pass, planes int, o api.Orient, mode api.Mode, next func(int) int) api.Errno {
	plane, kind := (pass+2)/3, (pass+2)%3
	m.next, m.orient, m.causal = next, o, mode.Causal
	m.coded = map[api.Point]bool{}
	m.power = 1 << (planes - 1 - plane)
	m.raw = mode.Bypass && plane >= 4 && kind != 2
	switch kind {
	case 0:
		m.significance()
	case 1:
		m.refinement()
	case 2:
		if !m.cleanup(mode.Symbols) {
			return api.ErrCorrupt
		}
	}
	return api.OK
}

// apply sets a coefficient of a block.
func apply(b *cblk.Block, p api.Point, c coefficient) bool {
	ok := b.Set(p.X, p.Y, c.value) == api.OK && b.Touch(p.X, p.Y, c.touched) == api.OK
	if c.significant {
		ok = ok && b.Mark(p.X, p.Y) == api.OK
	}
	if c.refined {
		ok = ok && b.Refine(p.X, p.Y) == api.OK
	}
	return ok
}

// block returns a block like the model.
func (m *model) block(t *testing.T) *cblk.Block {
	t.Helper()
	b, e := cblk.New(m.w, m.h)
	if e != api.OK {
		t.Fatalf("New(%d, %d) = %d", m.w, m.h, e)
	}
	for p, c := range m.cells {
		if !apply(b, p, *c) {
			t.Fatalf("%v cannot be set to %v", p, *c)
		}
	}
	return b
}

// compare checks that the block is like the model.
func compare(t *testing.T, b *cblk.Block, m *model) {
	t.Helper()
	for p, c := range m.cells {
		got := coefficient{b.Value(p.X, p.Y), b.Significant(p.X, p.Y), b.Touched(p.X, p.Y), b.Refined(p.X, p.Y)}
		if got != *c {
			t.Fatalf("%d by %d: %v is %v; expected %v", m.w, m.h, p, got, *c)
		}
	}
}

// script answers with the same random bits whenever it is made from the same seed, and keeps the contexts.
type script struct {
	source   *rand.Rand
	rare     int // one bit of so many is 1
	checks   bool
	contexts []int
}

func newScript(seed uint64) *script {
	return &script{source: rand.New(rand.NewPCG(16, seed)), rare: 1 + int(seed%6), checks: seed%3 == 0}
}

// next returns a bit; one of 1 is any number but 0. If checks is set, bits of the context Uniform alternate, so that check symbols may be right.
func (s *script) next(ctx int) int {
	s.contexts = append(s.contexts, ctx)
	bit := s.source.IntN(s.rare) == 0
	if s.checks && ctx == 18 {
		bit = s.uniforms()%2 == 1
	}
	if !bit {
		return 0
	}
	return []int{1, 2, -1, -2, 18, 1 << 32, math.MinInt, math.MaxInt}[s.source.IntN(8)]
}

// uniforms returns how many bits of the context Uniform were asked for one after the other.
func (s *script) uniforms() int {
	n := 0
	for n < len(s.contexts) && s.contexts[len(s.contexts)-1-n] == 18 {
		n++
	}
	return n
}

// step performs a pass on the block and on the model, and compares them. It returns the error of the pass.
func step(t *testing.T, seed uint64, b *cblk.Block, m *model, pass, planes int, o api.Orient, mode api.Mode) api.Errno {
	t.Helper()
	a, s := newScript(seed), newScript(seed)
	want := m.run(pass, planes, o, mode, a.next)
	got := decpass.Run(b, pass, planes, o, mode, s.next)
	if got != want || !slices.Equal(s.contexts, a.contexts) {
		t.Fatalf("%d by %d: Run(%d, %d, %d, %v) = %d with the contexts %v; expected %d with %v", m.w, m.h, pass, planes, o, mode, got, s.contexts, want, a.contexts)
	}
	compare(t, b, m)
	return got
}

// sizes calls f for many small sizes, and for some of the largest ones.
func sizes(f func(w, h int)) {
	for w := 1; w <= 5; w++ {
		for h := 1; h <= 9; h++ {
			f(w, h)
		}
	}
	for _, s := range [][2]int{{64, 1}, {1, 64}, {64, 4}, {3, 63}, {63, 5}, {6, 62}} {
		f(s[0], s[1])
	}
}

// modes are all combinations of a Mode's fields.
func modes() []api.Mode {
	var l []api.Mode
	for n := range 32 {
		l = append(l, api.Mode{Bypass: n&1 != 0, Restart: n&2 != 0, Reset: n&4 != 0, Causal: n&8 != 0, Symbols: n&16 != 0})
	}
	return l
}

func orients() []api.Orient { return []api.Orient{api.LL, api.HL, api.LH, api.HH} }

// number returns a random value of at most so many planes, often a small one.
func number(source *rand.Rand, planes int) int {
	v := int(source.Uint64N(1 << source.IntN(planes+1)))
	if source.IntN(2) == 0 {
		return -v
	}
	return v
}

// scattered returns a model with random values and flags.
func scattered(source *rand.Rand, w, h int) *model {
	m := newModel(w, h)
	rare := 1 + source.IntN(20)
	for _, p := range cblk.Scan(w, h) {
		c := m.cells[p]
		c.value = number(source, 60)
		c.significant = source.IntN(rare) == 0
		c.touched = source.IntN(2*rare) == 0
		c.refined = source.IntN(3) == 0
	}
	return m
}

// P16.1
func TestRunOnAnyBlock(t *testing.T) {
	source := rand.New(rand.NewPCG(16, 1))
	results := map[api.Errno]int{}
	sizes(func(w, h int) {
		for i, mode := range modes() {
			m := scattered(source, w, h)
			planes := 1 + source.IntN(60)
			e := step(t, uint64(i)+source.Uint64N(1000), m.block(t), m, source.IntN(3*planes-2), planes, orients()[source.IntN(4)], mode)
			results[e]++
		}
	})
	if results[api.OK] < 100 || results[api.ErrCorrupt] < 100 {
		t.Errorf("the passes return %v", results)
	}
}

// P16.1
func TestRunOfEachPass(t *testing.T) {
	source := rand.New(rand.NewPCG(16, 2))
	for _, planes := range []int{1, 2, 3, 5, 59, 60} {
		for pass := range 3*planes - 2 {
			for _, o := range orients() {
				m := scattered(source, 3, 7)
				step(t, source.Uint64N(1000), m.block(t), m, pass, planes, o, modes()[source.IntN(32)])
			}
		}
	}
}

// P16.1
func TestRunInAnyOrderOfPasses(t *testing.T) {
	source := rand.New(rand.NewPCG(16, 3))
	sizes(func(w, h int) {
		m := newModel(w, h)
		b := m.block(t)
		for range 12 {
			planes := 1 + source.IntN(60)
			step(t, source.Uint64N(1000), b, m, source.IntN(3*planes-2), planes, orients()[source.IntN(4)], modes()[source.IntN(32)])
		}
	})
}

// constant returns a function that returns n.
func constant(n int) func(int) int { return func(int) int { return n } }

// P16.1
func TestRefinementOfSignificantValues(t *testing.T) {
	const high = 1<<59 + 1<<58
	for _, c := range []struct{ value, weight, want int }{
		{0, 0, 1}, {0, 58, 1 << 58}, {5, 3, 13}, {-5, 3, -13}, {7, 0, 8}, {-7, 0, -8},
		{most, 0, most}, {-most, 0, -most}, {most - 1, 0, most}, {-most + 1, 0, -most}, {most - 1, 1, most - 1}, {-most + 1, 1, -most + 1},
		{high - 1, 58, most}, {-high + 1, 58, -most}, {high, 58, high}, {-high, 58, -high}, {most, 58, most}, {-most, 58, -most},
	} {
		for _, mode := range modes() {
			for _, answer := range []int{0, 1, -1, 2, math.MinInt, math.MaxInt} {
				want := c.want
				if answer == 0 {
					want = c.value
				}
				m := newModel(1, 1)
				*m.cells[api.Point{}] = coefficient{value: c.value, significant: true}
				b := m.block(t)
				e := decpass.Run(b, 2, c.weight+2, api.LL, mode, func(int) int { return answer })
				if e != api.OK || b.Value(0, 0) != want {
					t.Errorf("%d, refined by %d of weight 2^%d, is %d, %d; expected %d", c.value, answer, c.weight, b.Value(0, 0), e, want)
				}
				if !b.Refined(0, 0) || !b.Touched(0, 0) || !b.Significant(0, 0) {
					t.Errorf("%d is not refined", c.value)
				}
			}
		}
	}
}

// answers returns a function that answers with these numbers, and then with 0, and counts the questions.
func answers(count *int, list ...int) func(int) int {
	return func(int) int {
		*count++
		if *count > len(list) {
			return 0
		}
		return list[*count-1]
	}
}

// P16.1
func TestCheckSymbols(t *testing.T) {
	for n := range 16 {
		bits := []int{n >> 3, n >> 2 & 1, n >> 1 & 1, n & 1}
		want := api.ErrCorrupt
		if n == 10 {
			want = api.OK
		}
		for _, one := range []int{1, -1, 2, math.MinInt, math.MaxInt} {
			list := []int{one, one} // the coefficient becomes significant and negative
			for _, bit := range bits {
				list = append(list, one*bit)
			}
			count := 0
			m := newModel(1, 1)
			b := m.block(t)
			if e := decpass.Run(b, 0, 3, api.HH, api.Mode{Symbols: true}, answers(&count, list...)); e != want || count != 6 {
				t.Errorf("the check symbols %v return %d after %d bits", bits, e, count)
			}
			*m.cells[api.Point{}] = coefficient{value: -4, significant: true}
			compare(t, b, m)
			count = 0
			if e := decpass.Run(m.block(t), 0, 3, api.HH, api.Mode{}, answers(&count, list...)); e != api.OK || count != 0 {
				t.Errorf("without check symbols a pass over a significant coefficient returns %d after %d bits", e, count)
			}
		}
	}
}

// P16.1: only cleanup passes end by check symbols.
func TestPassesWithoutCheckSymbols(t *testing.T) {
	for _, pass := range []int{1, 2, 4, 5, 10, 11} {
		for _, mode := range []api.Mode{{Symbols: true}, {Symbols: true, Bypass: true}} {
			count := 0
			if e := decpass.Run(newModel(2, 5).block(t), pass, 9, api.LH, mode, answers(&count)); e != api.OK || count != 0 {
				t.Errorf("pass %d returns %d after %d bits", pass, e, count)
			}
		}
	}
}

// P16.1: signs are flipped, but not in raw passes.
func TestSignsOfRawPasses(t *testing.T) {
	for sign, want := range map[int][2]int{0: {-1, 1}, 1: {1, -1}} {
		for i, mode := range []api.Mode{{}, {Bypass: true}} {
			m := newModel(1, 2)
			*m.cells[api.Point{}] = coefficient{value: -30, significant: true}
			b, count := m.block(t), 0
			if e := decpass.Run(b, 10, 5, api.LL, mode, answers(&count, 1, sign)); e != api.OK || b.Value(0, 1) != want[i] || count != 2 {
				t.Errorf("the sign %d in %v gives %d, %d after %d bits", sign, mode, b.Value(0, 1), e, count)
			}
		}
	}
}

// badOrients are numbers that are no orientations.
func badOrients() []api.Orient {
	return []api.Orient{math.MinInt, -1 << 32, -4, -1, 4, 5, 7, 256, 1 << 32, 1<<32 + 1, math.MaxInt}
}

// badPasses are pairs of a pass and a number of planes at least one of which is not in its range.
func badPasses() [][2]int {
	var l [][2]int
	for _, planes := range []int{math.MinInt, -1 << 62, -1 << 32, -60, -2, -1, 0, 61, 62, 64, 1 << 32, 1<<32 + 1, 1 << 62, math.MaxInt/3 + 2, math.MaxInt} {
		for _, pass := range []int{math.MinInt, -1, 0, 1, 177, math.MaxInt} {
			l = append(l, [2]int{pass, planes})
		}
	}
	for planes := 1; planes <= 60; planes++ {
		for _, pass := range []int{math.MinInt, math.MinInt + 1, -1 << 32, -2, -1, 3*planes - 2, 3*planes - 1, 3 * planes, 1 << 32, math.MaxInt - 1, math.MaxInt} {
			l = append(l, [2]int{pass, planes})
		}
	}
	return l
}

// P16.1
func TestRunRejects(t *testing.T) {
	m := scattered(rand.New(rand.NewPCG(16, 4)), 3, 5)
	b := m.block(t)
	asked := func(ctx int) int {
		t.Errorf("the context %d is asked for", ctx)
		return 1
	}
	orientations := append(badOrients(), orients()...)
	reject := func(pass, planes int, o api.Orient, next func(int) int, want api.Errno) {
		t.Helper()
		if e := decpass.Run(b, pass, planes, o, api.Mode{Symbols: true, Causal: true}, next); e != want {
			t.Fatalf("Run(%d, %d, %d) = %d; expected %d", pass, planes, o, e, want)
		}
	}
	for _, p := range badPasses() {
		for _, o := range orientations {
			reject(p[0], p[1], o, nil, api.ErrArg)
			reject(p[0], p[1], o, asked, api.ErrRange)
		}
	}
	for pass := range 178 {
		for _, o := range badOrients() {
			reject(pass, 60, o, nil, api.ErrArg)
			reject(pass, 60, o, asked, api.ErrKind)
		}
		for _, o := range orients() {
			reject(pass, 60, o, nil, api.ErrArg)
		}
	}
	compare(t, b, m)
}

// P16.1, rule R7
func TestRunOnForeignBlocks(t *testing.T) {
	m := scattered(rand.New(rand.NewPCG(16, 5)), 3, 5)
	b := m.block(t)
	duplicate := *b
	asked := func(ctx int) int {
		t.Errorf("the context %d is asked for", ctx)
		return 1
	}
	for name, other := range map[string]*cblk.Block{"nil": nil, "zero": {}, "copied": &duplicate} {
		for _, p := range [][2]int{{0, 1}, {3, 2}, {177, 60}, {-1, 1}, {1, 1}, {0, 0}, {0, 61}, {math.MaxInt, math.MinInt}} {
			for _, o := range append(badOrients(), orients()...) {
				for _, next := range []func(int) int{nil, asked} {
					if e := decpass.Run(other, p[0], p[1], o, api.Mode{Symbols: true}, next); e != api.ErrState {
						t.Errorf("%s: Run(%d, %d, %d) = %d", name, p[0], p[1], o, e)
					}
				}
			}
		}
	}
	compare(t, b, m)
}

// symbolsOf returns the symbols of a block.
func symbolsOf(t *testing.T, values []int, w, h int, o api.Orient, mode api.Mode) [][]api.Symbol {
	t.Helper()
	l, e := encpass.Symbols(values, w, h, o, mode)
	if e != api.OK {
		t.Fatalf("Symbols(%v, %d, %d, %d, %v) = %d", values, w, h, o, mode, e)
	}
	return l
}

// sparse returns values most of which are 0.
func sparse(source *rand.Rand, n, planes int) []int {
	values := make([]int, n)
	rare := 1 + source.IntN(12)
	for i := range values {
		if source.IntN(rare) == 0 {
			values[i] = number(source, planes)
		}
	}
	return values
}

// blocks calls f for the values of many blocks, in all orientations and modes.
func blocks(seed uint64, f func(values []int, w, h int, o api.Orient, mode api.Mode)) {
	source := rand.New(rand.NewPCG(16, seed))
	sizes(func(w, h int) {
		for i, mode := range modes() {
			planes := 1 + source.IntN(8)
			if i%8 == 0 {
				planes = 1 + source.IntN(60)
			}
			f(sparse(source, w*h, planes), w, h, orients()[(w+h+i)%4], mode)
		}
	})
	f(sparse(source, 4096, 12), 64, 64, api.HL, api.Mode{Bypass: true})
	for _, values := range [][]int{{most, -most, 0, 1}, {0, 0, 0, -1 << 59}, {1, 1 << 59, -1, 1<<59 - 1}, {0, 0, 0, 0}} {
		f(values, 1, 4, api.LL, api.Mode{Causal: true})
	}
}

// P16.3
func TestValuesOfAllPasses(t *testing.T) {
	blocks(6, func(values []int, w, h int, o api.Orient, mode api.Mode) {
		got, missing, e := decpass.Values(symbolsOf(t, values, w, h, o, mode), encpass.Planes(values), w, h, o, mode)
		if e != api.OK || !slices.Equal(got, values) || !slices.Equal(missing, make([]int, w*h)) {
			t.Fatalf("%v in %v: the values are %v, missing %v, %d", values, mode, got, missing, e)
		}
	})
}

// steps returns the numbers from 0 to n, but not all if they are many.
func steps(n int) []int {
	var l []int
	for i := 0; i <= n; i += 1 + n/20 {
		l = append(l, i)
	}
	return l
}

// P16.3, P16.4
func TestValuesOfFewerPasses(t *testing.T) {
	blocks(7, func(values []int, w, h int, o api.Orient, mode api.Mode) {
		planes := encpass.Planes(values)
		symbols := symbolsOf(t, values, w, h, o, mode)
		for _, n := range steps(len(symbols)) {
			got, missing, e := decpass.Values(symbols[:n], planes, w, h, o, mode)
			if e != api.OK || len(got) != w*h || len(missing) != w*h {
				t.Fatalf("%d passes of %v: %v, missing %v, %d", n, values, got, missing, e)
			}
			low, high := planes, planes // the numbers that may be missing
			if plane, kind := cblk.Pass(n - 1); kind == 2 {
				low, high = planes-1-plane, planes-1-plane
			} else if n > 0 {
				low, high = planes-1-plane, planes-plane
			}
			for i, v := range values {
				if missing[i] != low && missing[i] != high {
					t.Fatalf("%d passes of %v: missing %v of %d planes", n, values, missing, planes)
				}
				if want := v / (1 << missing[i]) * (1 << missing[i]); got[i] != want {
					t.Fatalf("%d passes of %v: %v, missing %v", n, values, got, missing)
				}
			}
		}
	})
}

// recorded performs so many passes of the definition on a new model, with random bits whose check symbols are right. It returns the symbols and what is missing.
func recorded(seed uint64, m *model, passes, planes int, o api.Orient, mode api.Mode) ([][]api.Symbol, map[api.Point]int) {
	missing := map[api.Point]int{}
	for p := range m.cells {
		missing[p] = planes
	}
	all := make([][]api.Symbol, passes)
	counted := map[api.Point]int{} // the planes up to this one are counted as coded
	for pass := range all {
		source := rand.New(rand.NewPCG(seed, uint64(pass)))
		record := func(right bool) api.Errno {
			bits := slices.Clone(all[pass])
			return m.run(pass, planes, o, mode, func(ctx int) int {
				if right {
					bit := bits[0].Bit
					bits = bits[1:]
					return bit
				}
				all[pass] = append(all[pass], api.Symbol{Context: ctx, Bit: source.IntN(2)})
				return all[pass][len(all[pass])-1].Bit
			})
		}
		before := map[api.Point]coefficient{}
		for p, c := range m.cells {
			before[p] = *c
		}
		if record(false) != api.OK {
			for i, bit := range []int{1, 0, 1, 0} {
				all[pass][len(all[pass])-4+i].Bit = bit
			}
			for p, c := range before {
				*m.cells[p] = c
			}
			record(true)
		}
		plane, kind := (pass+2)/3+1, (pass+2)%3
		for p := range m.cells {
			if (kind == 2 || m.coded[p]) && counted[p] < plane {
				counted[p] = plane
				missing[p]--
			}
		}
	}
	return all, missing
}

// P16.2
func TestValuesOfRandomSymbols(t *testing.T) {
	source := rand.New(rand.NewPCG(16, 8))
	sizes(func(w, h int) {
		for _, mode := range modes() {
			planes := source.IntN(9)
			if source.IntN(8) == 0 {
				planes = source.IntN(61)
			}
			passes := source.IntN(max(1, 3*planes-1))
			o := orients()[source.IntN(4)]
			m := newModel(w, h)
			symbols, left := recorded(source.Uint64(), m, passes, planes, o, mode)
			values, missing, e := decpass.Values(symbols, planes, w, h, o, mode)
			if e != api.OK || len(values) != w*h || len(missing) != w*h {
				t.Fatalf("%d by %d, %d passes of %d planes in %v: %d", w, h, passes, planes, mode, e)
			}
			for p, c := range m.cells {
				if i := p.Y*w + p.X; values[i] != c.value || missing[i] != left[p] {
					t.Fatalf("%d by %d, %d passes of %d planes: %v is %d, missing %d; expected %d, %d", w, h, passes, planes, p, values[i], missing[i], c.value, left[p])
				}
			}
		}
	})
}

// P16.2, P16.4
func TestValuesWithoutPasses(t *testing.T) {
	for planes := 0; planes <= 60; planes++ {
		for _, symbols := range [][][]api.Symbol{nil, {}} {
			values, missing, e := decpass.Values(symbols, planes, 3, 2, api.HH, api.Mode{Symbols: true})
			if e != api.OK || !slices.Equal(values, make([]int, 6)) || !slices.Equal(missing, slices.Repeat([]int{planes}, 6)) {
				t.Errorf("without passes of %d planes: %v, missing %v, %d", planes, values, missing, e)
			}
		}
	}
}

// reject checks that Values returns an error and nothing else.
func reject(t *testing.T, symbols [][]api.Symbol, planes, w, h int, o api.Orient, mode api.Mode, want api.Errno) {
	t.Helper()
	if values, missing, e := decpass.Values(symbols, planes, w, h, o, mode); len(values) != 0 || len(missing) != 0 || e != want {
		t.Errorf("Values of %d passes, %d, %d, %d, %d: %v, %v, %d; expected %d", len(symbols), planes, w, h, o, values, missing, e, want)
	}
}

// P16.2
func TestValuesRejects(t *testing.T) {
	bad := [][]api.Symbol{{{Context: 99, Bit: 99}}}
	long := make([][]api.Symbol, 300)
	orientations := append(badOrients(), orients()...)
	for _, o := range orientations {
		for _, symbols := range [][][]api.Symbol{nil, bad, long} {
			for _, side := range []int{math.MinInt, -1 << 32, -64, -2, -1, 0, 65, 66, 128, 1<<32 + 1, 1 << 62, math.MaxInt} {
				for _, planes := range []int{math.MinInt, -1, 0, 1, 60, 61, math.MaxInt} {
					reject(t, symbols, planes, side, 1, o, api.Mode{}, api.ErrRange)
					reject(t, symbols, planes, 64, side, o, api.Mode{}, api.ErrRange)
					reject(t, symbols, planes, side, side, o, api.Mode{}, api.ErrRange)
				}
			}
			for _, planes := range []int{math.MinInt, math.MinInt + 1, -1 << 32, -60, -2, -1, 61, 62, 64, 1 << 32, 1<<32 + 1, math.MaxInt/3 + 2, math.MaxInt} {
				reject(t, symbols, planes, 2, 3, o, api.Mode{}, api.ErrRange)
			}
		}
		reject(t, make([][]api.Symbol, 1), 0, 1, 1, o, api.Mode{}, api.ErrLength)
		for planes := range 61 {
			for _, n := range []int{1, 2, 3, 100} {
				reject(t, make([][]api.Symbol, max(0, 3*planes-2)+n), planes, 1, 1, o, api.Mode{Symbols: true}, api.ErrLength)
			}
		}
	}
	for _, o := range badOrients() {
		reject(t, nil, 0, 1, 1, o, api.Mode{}, api.ErrKind)
		reject(t, nil, 60, 4, 4, o, api.Mode{}, api.ErrKind)
		reject(t, bad, 1, 1, 1, o, api.Mode{}, api.ErrKind)
		reject(t, make([][]api.Symbol, 178), 60, 4, 4, o, api.Mode{}, api.ErrKind)
	}
}

// changed returns a copy of symbols in which the pass n is another one.
func changed(symbols [][]api.Symbol, n int, pass []api.Symbol) [][]api.Symbol {
	l := slices.Clone(symbols)
	l[n] = pass
	return l
}

// P16.2
func TestValuesRejectsSymbols(t *testing.T) {
	values := []int{0, -100, 0, 3, 77, 0, 0, 0, -64, 1, 0, 0}
	for _, mode := range modes() {
		symbols := symbolsOf(t, values, 2, 6, api.HL, mode)
		planes := encpass.Planes(values)
		for n, pass := range symbols {
			for i, s := range pass {
				reject(t, changed(symbols, n, pass[:i]), planes, 2, 6, api.HL, mode, api.ErrSyntax)
				for _, other := range []api.Symbol{
					{Context: s.Context, Bit: 2}, {Context: s.Context, Bit: -1}, {Context: s.Context, Bit: s.Bit + 256}, {Context: s.Context, Bit: math.MinInt}, {Context: s.Context, Bit: math.MaxInt},
					{Context: s.Context + 1, Bit: s.Bit}, {Context: s.Context - 1, Bit: s.Bit}, {Context: s.Context + 1<<32, Bit: s.Bit}, {Context: math.MinInt, Bit: s.Bit}, {Context: math.MaxInt, Bit: s.Bit},
				} {
					list := slices.Clone(pass)
					list[i] = other
					reject(t, changed(symbols, n, list), planes, 2, 6, api.HL, mode, api.ErrSyntax)
				}
			}
			for _, extra := range []api.Symbol{{}, {Context: 18, Bit: 1}, {Context: -1}, {Context: 99, Bit: 99}} {
				reject(t, changed(symbols, n, append(slices.Clone(pass), extra)), planes, 2, 6, api.HL, mode, api.ErrSyntax)
			}
		}
	}
}

// P16.2: of the errors of a pass, that of symbols which are asked for precedes that of check symbols, and this one that of symbols which remain. An earlier pass precedes a later one.
func TestOrderOfErrorsOfSymbols(t *testing.T) {
	values := []int{5, 0, -2}
	mode := api.Mode{Symbols: true}
	symbols := symbolsOf(t, values, 1, 3, api.LL, mode)
	last := len(symbols) - 1
	corrupt := func(n, i int) [][]api.Symbol { // the pass n with a wrong check symbol
		pass := slices.Clone(symbols[n])
		pass[len(pass)-4+i].Bit ^= 1
		return changed(symbols, n, pass)
	}
	for _, n := range []int{0, 3, last} {
		for i := range 4 {
			wrong := corrupt(n, i)
			reject(t, wrong, 3, 1, 3, api.LL, mode, api.ErrCorrupt)
			reject(t, changed(wrong, n, append(slices.Clone(wrong[n]), api.Symbol{})), 3, 1, 3, api.LL, mode, api.ErrCorrupt)
			if i < 3 {
				reject(t, changed(wrong, n, wrong[n][:len(wrong[n])-1]), 3, 1, 3, api.LL, mode, api.ErrSyntax)
			}
			list := slices.Clone(wrong[n])
			list[len(list)-4+(i+1)%4].Context = 17
			reject(t, changed(wrong, n, list), 3, 1, 3, api.LL, mode, api.ErrSyntax)
		}
		if n > 0 {
			reject(t, changed(corrupt(n, 0), n-1, nil), 3, 1, 3, api.LL, mode, api.ErrSyntax)
			reject(t, changed(corrupt(n, 0), n-1, append(slices.Clone(symbols[n-1]), api.Symbol{})), 3, 1, 3, api.LL, mode, api.ErrSyntax)
		}
		if n < last {
			reject(t, changed(corrupt(n, 0), n+1, nil), 3, 1, 3, api.LL, mode, api.ErrCorrupt)
		}
	}
}

// Rules R5 and R6
func TestArgumentsAndResultsAreIndependent(t *testing.T) {
	values := []int{3, -1, 0, 7}
	mode := api.Mode{Symbols: true}
	symbols := symbolsOf(t, values, 2, 2, api.LH, mode)
	copied := symbolsOf(t, values, 2, 2, api.LH, mode)
	got, missing, e := decpass.Values(symbols[:5], 3, 2, 2, api.LH, mode)
	want, left := slices.Clone(got), slices.Clone(missing)
	if e != api.OK || !slices.EqualFunc(symbols, copied, slices.Equal[[]api.Symbol]) {
		t.Errorf("the symbols have become %v, %d", symbols, e)
	}
	for _, list := range symbols {
		clear(list)
	}
	if !slices.Equal(got, want) || !slices.Equal(missing, left) {
		t.Error("the results depend on symbols that were changed later")
	}
	clear(got[:cap(got)])
	if !slices.Equal(missing, left) {
		t.Error("the values and the missing planes share memory")
	}
	if again, _, e := decpass.Values(copied[:5], 3, 2, 2, api.LH, mode); e != api.OK || !slices.Equal(again, want) {
		t.Errorf("the same symbols yield %v, %d", again, e)
	}
}

// pairs returns symbols from pairs of a context and a bit.
func pairs(list ...[2]int) []api.Symbol {
	var l []api.Symbol
	for _, p := range list {
		l = append(l, api.Symbol{Context: p[0], Bit: p[1]})
	}
	return l
}

// The example 1 of the chapter.
func TestExampleOfOneCoefficient(t *testing.T) {
	values, missing, e := decpass.Values([][]api.Symbol{pairs([2]int{0, 1}, [2]int{9, 1})}, 1, 1, 1, api.LL, api.Mode{})
	if !slices.Equal(values, []int{-1}) || !slices.Equal(missing, []int{0}) || e != api.OK {
		t.Errorf("the values are %v, missing %v, %d", values, missing, e)
	}
}

// The example 2 of the chapter.
func TestExampleOfTwoPasses(t *testing.T) {
	symbols := [][]api.Symbol{
		pairs([2]int{17, 1}, [2]int{18, 1}, [2]int{18, 0}, [2]int{9, 0}, [2]int{3, 0}),
		pairs([2]int{3, 0}, [2]int{3, 1}, [2]int{10, 0}),
	}
	values, missing, e := decpass.Values(symbols, 2, 1, 4, api.LL, api.Mode{})
	if !slices.Equal(values, []int{0, 0, 2, 1}) || !slices.Equal(missing, []int{1, 0, 1, 0}) || e != api.OK {
		t.Errorf("the values are %v, missing %v, %d", values, missing, e)
	}
}

// The example 3 of the chapter.
func TestExampleOfCheckSymbols(t *testing.T) {
	mode := api.Mode{Symbols: true}
	pass := pairs([2]int{0, 1}, [2]int{9, 1})
	reject(t, [][]api.Symbol{pass}, 1, 1, 1, api.LL, mode, api.ErrSyntax)
	pass = append(pass, pairs([2]int{18, 1}, [2]int{18, 1}, [2]int{18, 1}, [2]int{18, 0})...)
	reject(t, [][]api.Symbol{pass}, 1, 1, 1, api.LL, mode, api.ErrCorrupt)
}
