package cblk_test

import (
	"math"
	"math/rand/v2"
	"slices"
	"testing"

	"wavelet/api"
	"wavelet/cblk"
)

const most = 1<<60 - 1 // the highest absolute value of a coefficient

// coefficient is a coefficient as the chapter defines it.
type coefficient struct {
	value                         int
	significant, touched, refined bool
}

// model is a block that follows the definitions of the chapter.
type model struct {
	w, h  int
	cells map[api.Point]*coefficient
}

func newModel(w, h int) *model {
	m := &model{w, h, map[api.Point]*coefficient{}}
	for y := range h {
		for x := range w {
			m.cells[api.Point{X: x, Y: y}] = &coefficient{}
		}
	}
	return m
}

// at returns a coefficient, or nil if there is none.
func (m *model) at(x, y int) *coefficient { return m.cells[api.Point{X: x, Y: y}] }

func (m *model) significant(x, y int) int {
	if c := m.at(x, y); c != nil && c.significant {
		return 1
	}
	return 0
}

func (m *model) sign(x, y int) int {
	switch c := m.at(x, y); {
	case c == nil || !c.significant:
		return 0
	case c.value < 0:
		return -1
	}
	return 1
}

func joint(a, b int) int {
	switch s := a + b; {
	case s < -1:
		return -1
	case s > 1:
		return 1
	default:
		return s
	}
}

// neighbors returns what Neighbors should.
func (m *model) neighbors(x, y int, causal bool) (n [3]int) {
	if m.at(x, y) == nil {
		return n
	}
	for dy := -1; dy <= 1; dy++ {
		if causal && dy == 1 && y%4 == 3 {
			continue
		}
		for dx := -1; dx <= 1; dx++ {
			switch {
			case dx == 0 && dy == 0:
			case dy == 0:
				n[0] += m.significant(x+dx, y)
			case dx == 0:
				n[1] += m.significant(x, y+dy)
			default:
				n[2] += m.significant(x+dx, y+dy)
			}
		}
	}
	return n
}

// signs returns what Signs should.
func (m *model) signs(x, y int, causal bool) [2]int {
	if m.at(x, y) == nil {
		return [2]int{}
	}
	below := m.sign(x, y+1)
	if causal && y%4 == 3 {
		below = 0
	}
	return [2]int{joint(m.sign(x-1, y), m.sign(x+1, y)), joint(m.sign(x, y-1), below)}
}

// made returns a new block.
func made(t *testing.T, w, h int) *cblk.Block {
	t.Helper()
	b, e := cblk.New(w, h)
	if b == nil || e != api.OK {
		t.Fatalf("New(%d, %d) = %v, %d", w, h, b, e)
	}
	return b
}

func neighbors(b *cblk.Block, x, y int, causal bool) [3]int {
	h, v, d := b.Neighbors(x, y, causal)
	return [3]int{h, v, d}
}

func signs(b *cblk.Block, x, y int, causal bool) [2]int {
	h, v := b.Signs(x, y, causal)
	return [2]int{h, v}
}

// compareAt checks what the block returns for (x, y).
func compareAt(t *testing.T, b *cblk.Block, m *model, x, y int) {
	t.Helper()
	var want coefficient
	if c := m.at(x, y); c != nil {
		want = *c
	}
	got := coefficient{b.Value(x, y), b.Significant(x, y), b.Touched(x, y), b.Refined(x, y)}
	if got != want {
		t.Fatalf("%d by %d: (%d, %d) is %v; expected %v", m.w, m.h, x, y, got, want)
	}
	for _, causal := range []bool{false, true} {
		if got, want := neighbors(b, x, y, causal), m.neighbors(x, y, causal); got != want {
			t.Fatalf("%d by %d: Neighbors(%d, %d, %v) = %v; expected %v", m.w, m.h, x, y, causal, got, want)
		}
		if got, want := signs(b, x, y, causal), m.signs(x, y, causal); got != want {
			t.Fatalf("%d by %d: Signs(%d, %d, %v) = %v; expected %v", m.w, m.h, x, y, causal, got, want)
		}
	}
}

// compare checks everything that the block returns, also for coordinates outside of it.
func compare(t *testing.T, b *cblk.Block, m *model) {
	t.Helper()
	if w, h := b.Size(); w != m.w || h != m.h {
		t.Fatalf("Size() = %d, %d; expected %d, %d", w, h, m.w, m.h)
	}
	for y := -2; y <= m.h+2; y++ {
		for x := -2; x <= m.w+2; x++ {
			compareAt(t, b, m, x, y)
		}
	}
}

// outside returns numbers that are not from 0 to n - 1.
func outside(n int) []int {
	return []int{math.MinInt, math.MinInt + 1, -1 << 32, -n - 2, -n, -2, -1, n, n + 1, n + 2, 2 * n, 64 + n, 256 + n, 1 << 32, math.MaxInt - 1, math.MaxInt}
}

// absent calls f for points outside of a block: beyond each side alone, and beyond two.
func absent(w, h int, f func(x, y int)) {
	for _, y := range outside(h) {
		for x := range w {
			f(x, y)
		}
		for _, x := range outside(w) {
			f(x, y)
		}
	}
	for _, x := range outside(w) {
		for y := range h {
			f(x, y)
		}
	}
}

// sizes calls f for all small sizes, and for some of the largest ones.
func sizes(f func(w, h int)) {
	for w := 1; w <= 5; w++ {
		for h := 1; h <= 9; h++ {
			f(w, h)
		}
	}
	for _, s := range [][2]int{{64, 1}, {1, 64}, {64, 2}, {2, 63}, {63, 6}, {7, 62}} {
		f(s[0], s[1])
	}
}

// change makes a random change to a coefficient in the block and in the model.
func change(t *testing.T, source *rand.Rand, b *cblk.Block, m *model, x, y int) {
	t.Helper()
	var e api.Errno
	c := m.at(x, y)
	switch source.IntN(6) {
	case 0, 1:
		c.value = int(source.Uint64()) >> (3 + source.IntN(62))
		e = b.Set(x, y, c.value)
	case 2:
		c.significant = true
		e = b.Mark(x, y)
	case 3:
		c.touched = true
		e = b.Touch(x, y, true)
	case 4:
		c.touched = false
		e = b.Touch(x, y, false)
	case 5:
		c.refined = true
		e = b.Refine(x, y)
	}
	if e != api.OK {
		t.Fatalf("%d by %d: a change of (%d, %d) returned %d", m.w, m.h, x, y, e)
	}
}

// changed returns a block with many random changes, and its model.
func changed(t *testing.T, source *rand.Rand, w, h int) (*cblk.Block, *model) {
	t.Helper()
	b, m := made(t, w, h), newModel(w, h)
	for range w*h + w*h/2 {
		change(t, source, b, m, source.IntN(w), source.IntN(h))
	}
	return b, m
}

// P14.1
func TestNewBlocks(t *testing.T) {
	for w := 1; w <= 64; w++ {
		for h := 1; h <= 64; h++ {
			b := made(t, w, h)
			if gotW, gotH := b.Size(); gotW != w || gotH != h {
				t.Fatalf("Size() = %d, %d; expected %d, %d", gotW, gotH, w, h)
			}
		}
	}
	sizes(func(w, h int) { compare(t, made(t, w, h), newModel(w, h)) })
}

// badSides are numbers that are not from 1 to 64.
func badSides() []int {
	return []int{math.MinInt, -1 << 32, -64, -2, -1, 0, 65, 66, 128, 256, 1<<32 + 1, 1 << 62, math.MaxInt}
}

// P14.1
func TestNewRejectsSizes(t *testing.T) {
	for _, bad := range badSides() {
		for _, s := range [][2]int{{bad, 1}, {bad, 64}, {1, bad}, {64, bad}, {bad, bad}} {
			if b, e := cblk.New(s[0], s[1]); b != nil || e != api.ErrRange {
				t.Errorf("New(%d, %d) = %v, %d", s[0], s[1], b, e)
			}
		}
	}
}

// P14.2
func TestSetAndValue(t *testing.T) {
	sizes(func(w, h int) {
		b, m := made(t, w, h), newModel(w, h)
		for i, v := range []int{1, -1, most, -most, 1 << 59, -1 << 59, 7, -8, 0, 12345} {
			for y := range h {
				for x := range w {
					m.at(x, y).value = v + (x+y+i)%2
					if v == most {
						m.at(x, y).value = v
					}
					if e := b.Set(x, y, m.at(x, y).value); e != api.OK {
						t.Fatalf("Set(%d, %d, %d) = %d", x, y, v, e)
					}
				}
			}
			compare(t, b, m)
		}
	})
}

// P14.2
func TestSetRejectsValues(t *testing.T) {
	b, m := changed(t, rand.New(rand.NewPCG(14, 1)), 3, 5)
	for _, v := range []int{most + 1, -most - 1, most + 2, -most - 2, 1 << 61, -1 << 61, 1 << 62, -1 << 62, math.MaxInt, -math.MaxInt, math.MinInt} {
		for y := range 5 {
			for x := range 3 {
				if e := b.Set(x, y, v); e != api.ErrRange {
					t.Errorf("Set(%d, %d, %d) = %d", x, y, v, e)
				}
			}
		}
	}
	compare(t, b, m)
}

// P14.2, P14.3
func TestChangesOutsideOfTheBlock(t *testing.T) {
	source := rand.New(rand.NewPCG(14, 2))
	for _, s := range [][2]int{{1, 1}, {3, 5}, {4, 4}, {64, 2}, {1, 64}} {
		b, m := changed(t, source, s[0], s[1])
		absent(s[0], s[1], func(x, y int) {
			for name, e := range map[string]api.Errno{
				"Set": b.Set(x, y, 5), "Set of a great value": b.Set(x, y, math.MinInt),
				"Mark": b.Mark(x, y), "Touch": b.Touch(x, y, true), "Touch off": b.Touch(x, y, false), "Refine": b.Refine(x, y),
			} {
				if e != api.ErrRange {
					t.Errorf("%v: %s at (%d, %d) = %d", s, name, x, y, e)
				}
			}
			compareAt(t, b, m, x, y)
		})
		compare(t, b, m)
	}
}

// P14.3
func TestFlags(t *testing.T) {
	sizes(func(w, h int) {
		b, m := made(t, w, h), newModel(w, h)
		for y := range h {
			for x := range w {
				c := m.at(x, y)
				steps := []func() api.Errno{
					func() api.Errno { c.touched = true; return b.Touch(x, y, true) },
					func() api.Errno { c.refined = true; return b.Refine(x, y) },
					func() api.Errno { c.touched = false; return b.Touch(x, y, false) },
					func() api.Errno { c.significant = true; return b.Mark(x, y) },
					func() api.Errno { c.touched = (x+y)%3 == 0; return b.Touch(x, y, c.touched) },
				}
				for i, step := range steps {
					for range 2 {
						if e := step(); e != api.OK {
							t.Fatalf("the step %d at (%d, %d) = %d", i, x, y, e)
						}
						compareAt(t, b, m, x, y)
					}
				}
			}
		}
		compare(t, b, m)
	})
}

// around calls f for blocks of 3 by 9 with each combination of neighbors of (1, y): none, positive or negative, for each of the eight.
func around(t *testing.T, f func(b *cblk.Block, m *model, y int)) {
	for y := 1; y < 8; y++ {
		for n := range 6561 {
			b, m := made(t, 3, 9), newModel(3, 9)
			for i := range 9 {
				if i == 4 {
					continue
				}
				if n%3 > 0 {
					x, row := i%3, y-1+i/3
					v := n%3*2 - 3
					c := m.at(x, row)
					c.value, c.significant = v, true
					if b.Set(x, row, v) != api.OK || b.Mark(x, row) != api.OK {
						t.Fatalf("(%d, %d) cannot be set", x, row)
					}
				}
				n /= 3
			}
			f(b, m, y)
		}
	}
}

// P14.4, P14.5
func TestAllCombinationsOfNeighbors(t *testing.T) {
	around(t, func(b *cblk.Block, m *model, y int) { compareAt(t, b, m, 1, y) })
}

// P14.4, P14.5
func TestNeighborsInAllBlocks(t *testing.T) {
	for h := 1; h <= 12; h++ {
		for w := 1; w <= 4; w++ {
			for v := -1; v <= 1; v++ {
				b, m := made(t, w, h), newModel(w, h)
				for y := range h {
					for x := range w {
						m.at(x, y).value, m.at(x, y).significant = v, true
						if b.Set(x, y, v) != api.OK || b.Mark(x, y) != api.OK {
							t.Fatalf("(%d, %d) cannot be set", x, y)
						}
						compare(t, b, m)
					}
				}
			}
		}
	}
}

// P14.5
func TestSignsFollowValues(t *testing.T) {
	b, m := made(t, 3, 3), newModel(3, 3)
	m.at(1, 0).significant = true
	b.Mark(1, 0)
	for _, v := range []int{0, 5, -5, 0, -most, most} {
		m.at(1, 0).value, m.at(0, 1).value = v, v
		if b.Set(1, 0, v) != api.OK || b.Set(0, 1, v) != api.OK {
			t.Fatalf("%d cannot be set", v)
		}
		compare(t, b, m)
	}
	if h, v := b.Signs(1, 1, false); h != 0 || v != 1 {
		t.Errorf("Signs(1, 1, false) = %d, %d", h, v)
	}
}

// scanned is the order of the definition: by stripe, column and row.
func scanned(w, h int) []api.Point {
	var l []api.Point
	for y := range h {
		for x := range w {
			l = append(l, api.Point{X: x, Y: y})
		}
	}
	slices.SortStableFunc(l, func(a, b api.Point) int {
		if a.Y/4 != b.Y/4 {
			return a.Y/4 - b.Y/4
		}
		if a.X != b.X {
			return a.X - b.X
		}
		return a.Y - b.Y
	})
	return l
}

// P14.6, P14.11
func TestScan(t *testing.T) {
	for w := 1; w <= 64; w++ {
		for h := 1; h <= 64; h++ {
			got := cblk.Scan(w, h)
			if !slices.Equal(got, scanned(w, h)) {
				t.Fatalf("Scan(%d, %d) = %v", w, h, got)
			}
			seen := map[api.Point]bool{}
			for _, p := range got {
				seen[p] = true
			}
			if len(got) != w*h || len(seen) != w*h {
				t.Fatalf("Scan(%d, %d) has %d points, %d different ones", w, h, len(got), len(seen))
			}
		}
	}
}

// P14.6
func TestScanOfOtherSizes(t *testing.T) {
	for _, bad := range badSides() {
		for _, s := range [][2]int{{bad, 1}, {bad, 64}, {1, bad}, {64, bad}, {bad, bad}} {
			if l := cblk.Scan(s[0], s[1]); len(l) != 0 {
				t.Errorf("Scan(%d, %d) has %d points", s[0], s[1], len(l))
			}
		}
	}
}

// passesOf returns the planes and kinds of the passes of so many planes, in order.
func passesOf(planes int) [][2]int {
	l := [][2]int{{0, 2}}
	for p := 1; p < planes; p++ {
		l = append(l, [2]int{p, 0}, [2]int{p, 1}, [2]int{p, 2})
	}
	return l
}

// P14.7, P14.12
func TestPass(t *testing.T) {
	for n, want := range passesOf(300) {
		if plane, kind := cblk.Pass(n); plane != want[0] || kind != want[1] {
			t.Errorf("Pass(%d) = %d, %d; expected %v", n, plane, kind, want)
		}
	}
	for n := 1; n <= 100; n++ {
		if l := passesOf(n); len(l) != 3*n-2 {
			t.Errorf("%d planes have %d passes", n, len(l))
		}
		if plane, kind := cblk.Pass(3*n - 2); plane != n || kind != 0 {
			t.Errorf("the pass behind %d planes is of plane %d, kind %d", n, plane, kind)
		}
	}
}

// P14.7
func TestPassAtTheEnds(t *testing.T) {
	for _, n := range []int{-1, -2, -3, -4, -178, -1 << 32, math.MinInt, math.MinInt + 1, math.MinInt + 2} {
		if plane, kind := cblk.Pass(n); plane != -1 || kind != -1 {
			t.Errorf("Pass(%d) = %d, %d", n, plane, kind)
		}
	}
	third := math.MaxInt / 3 // MaxInt is 3 * third + 1
	for n, want := range map[int][2]int{
		math.MaxInt:     {third + 1, 0},
		math.MaxInt - 1: {third, 2},
		math.MaxInt - 2: {third, 1},
		math.MaxInt - 3: {third, 0},
		math.MaxInt - 4: {third - 1, 2},
	} {
		if plane, kind := cblk.Pass(n); plane != want[0] || kind != want[1] {
			t.Errorf("Pass(%d) = %d, %d; expected %v", n, plane, kind, want)
		}
	}
}

// modes are all combinations of a Mode's fields.
func modes() []api.Mode {
	var l []api.Mode
	for n := range 32 {
		l = append(l, api.Mode{Bypass: n&1 != 0, Restart: n&2 != 0, Reset: n&4 != 0, Causal: n&8 != 0, Symbols: n&16 != 0})
	}
	return l
}

// P14.7
func TestRaw(t *testing.T) {
	for _, m := range modes() {
		for n, p := range passesOf(100) {
			want := m.Bypass && p[0] >= 4 && p[1] != 2
			if got := cblk.Raw(n, m); got != want {
				t.Errorf("Raw(%d, %v) = %v", n, m, got)
			}
		}
		for n, want := range map[int]bool{
			-1: false, -2: false, -3: false, math.MinInt: false, math.MinInt + 1: false, math.MinInt + 2: false,
			math.MaxInt: m.Bypass, math.MaxInt - 1: false, math.MaxInt - 2: m.Bypass, math.MaxInt - 3: m.Bypass,
		} {
			if got := cblk.Raw(n, m); got != want {
				t.Errorf("Raw(%d, %v) = %v", n, m, got)
			}
		}
	}
}

// segments returns the segments of the definition.
func segments(passes int, m api.Mode) []int {
	if passes < 1 || passes > 178 {
		return nil
	}
	var l []int
	for passes > 0 {
		n := passes
		switch {
		case m.Restart:
			n = 1
		case m.Bypass && len(l) == 0:
			n = 10
		case m.Bypass:
			n = 1 + len(l)%2
		}
		n = min(n, passes)
		l = append(l, n)
		passes -= n
	}
	return l
}

// P14.8
func TestSegments(t *testing.T) {
	for _, m := range modes() {
		for passes := -3; passes <= 200; passes++ {
			if got, want := cblk.Segments(passes, m), segments(passes, m); !slices.Equal(got, want) {
				t.Errorf("Segments(%d, %v) = %v; expected %v", passes, m, got, want)
			}
		}
		for _, passes := range []int{math.MinInt, math.MinInt + 1, -1 << 32, 1 << 32, 1<<32 + 1, math.MaxInt - 1, math.MaxInt} {
			if l := cblk.Segments(passes, m); len(l) != 0 {
				t.Errorf("Segments(%d, %v) = %v", passes, m, l)
			}
		}
	}
}

// P14.9
func TestOperations(t *testing.T) {
	source := rand.New(rand.NewPCG(14, 3))
	sizes(func(w, h int) {
		b, m := made(t, w, h), newModel(w, h)
		for range 4 {
			for range 10 {
				x, y := source.IntN(w), source.IntN(h)
				change(t, source, b, m, x, y)
				compareAt(t, b, m, x, y)
			}
			compare(t, b, m)
		}
	})
	b, m := changed(t, source, 64, 64)
	compare(t, b, m)
}

// P14.9
func TestBlocksAreIndependent(t *testing.T) {
	source := rand.New(rand.NewPCG(14, 4))
	a, m := changed(t, source, 5, 6)
	b, n := changed(t, source, 5, 6)
	for range 200 {
		change(t, source, a, m, source.IntN(5), source.IntN(6))
		change(t, source, b, n, source.IntN(5), source.IntN(6))
	}
	compare(t, a, m)
	compare(t, b, n)
}

// allNeighbors returns the numbers of all coefficients.
func allNeighbors(b *cblk.Block, causal bool) map[api.Point][3]int {
	l := map[api.Point][3]int{}
	w, h := b.Size()
	for y := range h {
		for x := range w {
			l[api.Point{X: x, Y: y}] = neighbors(b, x, y, causal)
		}
	}
	return l
}

// difference returns by how much the numbers of a neighbor at this relative position change.
func difference(dx, dy int) [3]int {
	switch dx*dx + 2*dy*dy {
	case 1:
		return [3]int{1, 0, 0}
	case 2:
		return [3]int{0, 1, 0}
	case 3:
		return [3]int{0, 0, 1}
	}
	return [3]int{}
}

// P14.10
func TestMarkChangesNeighbors(t *testing.T) {
	source := rand.New(rand.NewPCG(14, 5))
	sizes(func(w, h int) {
		b := made(t, w, h)
		for range 12 {
			x, y := source.IntN(w), source.IntN(h)
			marked := b.Significant(x, y)
			before, causal := allNeighbors(b, false), allNeighbors(b, true)
			if e := b.Mark(x, y); e != api.OK {
				t.Fatalf("Mark(%d, %d) = %d", x, y, e)
			}
			after, causalAfter := allNeighbors(b, false), allNeighbors(b, true)
			for p := range before {
				d := difference(p.X-x, p.Y-y)
				if marked {
					d = [3]int{}
				}
				hidden := p.Y == y-1 && y%4 == 0 // the last row of the preceding stripe
				for i := range 3 {
					if after[p][i] != before[p][i]+d[i] {
						t.Fatalf("%d by %d, Mark(%d, %d): at %v from %v to %v", w, h, x, y, p, before[p], after[p])
					}
					if hidden && causalAfter[p] != causal[p] || !hidden && causalAfter[p][i] != causal[p][i]+d[i] {
						t.Fatalf("%d by %d, Mark(%d, %d): causal at %v from %v to %v", w, h, x, y, p, causal[p], causalAfter[p])
					}
				}
			}
		}
	})
}

// P14.10
func TestSignsWithoutNeighbors(t *testing.T) {
	source := rand.New(rand.NewPCG(14, 6))
	sizes(func(w, h int) {
		b, _ := changed(t, source, w, h)
		for y := range h {
			for x := range w {
				for _, causal := range []bool{false, true} {
					n, s := neighbors(b, x, y, causal), signs(b, x, y, causal)
					for i := range 2 {
						if s[i] < -1 || s[i] > 1 || n[i] == 0 && s[i] != 0 {
							t.Fatalf("(%d, %d): Neighbors %v, Signs %v", x, y, n, s)
						}
					}
				}
			}
		}
	})
}

// P14.12
func TestSegmentsOfFewerPasses(t *testing.T) {
	for _, m := range modes() {
		var shorter []int
		for passes := 1; passes <= api.MaxPasses; passes++ {
			l := cblk.Segments(passes, m)
			n := 0
			for _, length := range l {
				if length < 1 {
					t.Fatalf("Segments(%d, %v) = %v", passes, m, l)
				}
				for i := range length {
					if cblk.Raw(n+i, m) != cblk.Raw(n, m) {
						t.Fatalf("Segments(%d, %v) = %v: the segment of pass %d has coded and raw passes", passes, m, l, n)
					}
				}
				n += length
			}
			if n != passes {
				t.Fatalf("Segments(%d, %v) = %v", passes, m, l)
			}
			if k := len(shorter) - 1; k >= 0 && (len(l) <= k || !slices.Equal(l[:k], shorter[:k])) {
				t.Fatalf("Segments(%d, %v) = %v; of one pass less %v", passes, m, l, shorter)
			}
			shorter = l
		}
	}
}

// Rule R6
func TestResultsShareNoMemory(t *testing.T) {
	points := cblk.Scan(3, 5)
	clear(points[:cap(points)])
	if l := cblk.Scan(3, 5); !slices.Equal(l, scanned(3, 5)) {
		t.Errorf("Scan(3, 5) = %v", l)
	}
	m := api.Mode{Bypass: true}
	lengths := cblk.Segments(20, m)
	clear(lengths[:cap(lengths)])
	if l := cblk.Segments(20, m); !slices.Equal(l, segments(20, m)) {
		t.Errorf("Segments(20, %v) = %v", m, l)
	}
}

// Rule R7
func TestBlocksThatNewDidNotReturn(t *testing.T) {
	original, m := changed(t, rand.New(rand.NewPCG(14, 7)), 3, 5)
	duplicate := *original
	for name, b := range map[string]*cblk.Block{"nil": nil, "zero": {}, "copied": &duplicate} {
		if w, h := b.Size(); w != 0 || h != 0 {
			t.Errorf("%s: Size() = %d, %d", name, w, h)
		}
		for _, p := range [][2]int{{0, 0}, {1, 1}, {2, 4}, {-1, 0}, {0, 5}, {math.MinInt, math.MaxInt}} {
			x, y := p[0], p[1]
			for i, e := range []api.Errno{
				b.Set(x, y, 3), b.Set(x, y, math.MinInt), b.Mark(x, y), b.Touch(x, y, true), b.Touch(x, y, false), b.Refine(x, y),
			} {
				if e != api.ErrState {
					t.Errorf("%s: the change %d of (%d, %d) returned %d", name, i, x, y, e)
				}
			}
			if b.Value(x, y) != 0 || b.Significant(x, y) || b.Touched(x, y) || b.Refined(x, y) {
				t.Errorf("%s: (%d, %d) has a value or flags", name, x, y)
			}
			for _, causal := range []bool{false, true} {
				if n, s := neighbors(b, x, y, causal), signs(b, x, y, causal); n != [3]int{} || s != [2]int{} {
					t.Errorf("%s: (%d, %d) has the neighbors %v and the signs %v", name, x, y, n, s)
				}
			}
		}
	}
	compare(t, original, m)
}

// The example 1 of the chapter.
func TestExampleOfNeighbors(t *testing.T) {
	b := made(t, 3, 5)
	for _, c := range [][3]int{{1, 3, -2}, {0, 4, 7}, {2, 4, 7}} {
		if b.Set(c[0], c[1], c[2]) != api.OK || b.Mark(c[0], c[1]) != api.OK {
			t.Fatalf("%v cannot be set", c)
		}
	}
	if n, s := neighbors(b, 1, 4, false), signs(b, 1, 4, false); n != [3]int{2, 1, 0} || s != [2]int{1, -1} {
		t.Errorf("(1, 4) has the neighbors %v and the signs %v", n, s)
	}
	if n, c := neighbors(b, 1, 3, false), neighbors(b, 1, 3, true); n != [3]int{0, 0, 2} || c != [3]int{} {
		t.Errorf("(1, 3) has the neighbors %v, and with causal %v", n, c)
	}
}

// The examples 2 to 4 of the chapter.
func TestExamplesOfPasses(t *testing.T) {
	var points []api.Point
	for _, p := range [][2]int{{0, 0}, {0, 1}, {0, 2}, {0, 3}, {1, 0}, {1, 1}, {1, 2}, {1, 3}, {0, 4}, {1, 4}} {
		points = append(points, api.Point{X: p[0], Y: p[1]})
	}
	if l := cblk.Scan(2, 5); !slices.Equal(l, points) {
		t.Errorf("Scan(2, 5) = %v", l)
	}
	for n, want := range map[int][2]int{0: {0, 2}, 1: {1, 0}, 6: {2, 2}} {
		if plane, kind := cblk.Pass(n); plane != want[0] || kind != want[1] {
			t.Errorf("Pass(%d) = %d, %d", n, plane, kind)
		}
	}
	bypass := api.Mode{Bypass: true}
	if !cblk.Raw(10, bypass) || !cblk.Raw(11, bypass) || cblk.Raw(12, bypass) {
		t.Error("with Bypass the passes 10 to 12 are not raw, raw and coded")
	}
	if l := cblk.Segments(14, bypass); !slices.Equal(l, []int{10, 2, 1, 1}) {
		t.Errorf("Segments(14, %v) = %v", bypass, l)
	}
	if l := cblk.Segments(3, api.Mode{Restart: true}); !slices.Equal(l, []int{1, 1, 1}) {
		t.Errorf("with Restart Segments(3) = %v", l)
	}
}
