package dwt_test

import (
	"math"
	"math/rand/v2"
	"slices"
	"testing"

	"wavelet/api"
	"wavelet/dwt"
	"wavelet/extend"
	"wavelet/lift"
	"wavelet/plane"
	"wavelet/rect"
)

var kernels = []api.Kernel{api.Haar, api.LeGall, api.Binary97}

// strangers are kernels that are none.
var strangers = []api.Kernel{0, 4, -1, math.MinInt, math.MaxInt}

func r(x0, y0, x1, y1 int) api.Rect { return api.Rect{X0: x0, Y0: y0, X1: x1, Y1: y1} }

func pl(rc api.Rect, data ...int) api.Plane { return api.Plane{Rect: rc, Data: data} }

// rects returns all valid rectangles, also empty ones, with coordinates from low to high.
func rects(low, high int) []api.Rect {
	var l []api.Rect
	for x0 := low; x0 <= high; x0++ {
		for y0 := low; y0 <= high; y0++ {
			for x1 := x0; x1 <= high; x1++ {
				for y1 := y0; y1 <= high; y1++ {
					l = append(l, r(x0, y0, x1, y1))
				}
			}
		}
	}
	return l
}

// larger are rectangles of more rows and columns, and some at the end of the grid.
var larger = []api.Rect{
	r(0, 0, 16, 16), r(3, 0, 20, 9), r(0, 7, 11, 30), r(5, 5, 28, 26), r(6, 9, 7, 40), r(9, 6, 40, 7), r(2, 11, 3, 30), r(11, 2, 30, 3),
	r(api.MaxSide-9, api.MaxSide-6, api.MaxSide, api.MaxSide), r(api.MaxSide-1, 0, api.MaxSide, 13),
	r(0, api.MaxSide, 12, api.MaxSide), r(api.MaxSide, api.MaxSide, api.MaxSide, api.MaxSide),
}

// notValid are rectangles that are not valid.
var notValid = []api.Rect{
	r(-1, 0, 2, 2), r(0, -1, 2, 2), r(3, 0, 2, 2), r(0, 3, 2, 2), r(0, 0, api.MaxSide+1, 2), r(0, 0, 2, api.MaxSide+1),
	r(-2, -2, -2, -2), r(api.MaxSide+1, 0, api.MaxSide+1, 0),
	r(math.MinInt, math.MinInt, math.MaxInt, math.MaxInt), r(math.MaxInt, math.MaxInt, math.MinInt, math.MinInt),
}

// scattered returns a plane of numbers from -b to b, the same for the same seed.
func scattered(seed uint64, rc api.Rect, b int) api.Plane {
	source := rand.New(rand.NewPCG(seed, 2))
	p := pl(rc)
	for range rect.Area(rc) {
		p.Data = append(p.Data, source.IntN(2*b+1)-b)
	}
	return p
}

// parts returns the subbands of a valid rectangle by the formulas of the chapter.
func parts(rc api.Rect) [4]api.Rect {
	up := func(v int) int { return (v + 1) / 2 }
	down := func(v int) int { return v / 2 }
	return [4]api.Rect{
		r(up(rc.X0), up(rc.Y0), up(rc.X1), up(rc.Y1)),
		r(down(rc.X0), up(rc.Y0), down(rc.X1), up(rc.Y1)),
		r(up(rc.X0), down(rc.Y0), up(rc.X1), down(rc.Y1)),
		r(down(rc.X0), down(rc.Y0), down(rc.X1), down(rc.Y1)),
	}
}

// grid has a number for each point of a rectangle. A coefficient stands at the column and the row that it belongs to.
type grid map[api.Point]int

// each replaces the numbers of each row of a rectangle, or of each column, by what f returns for them.
func (g grid) each(rc api.Rect, rows bool, f func(x []int, start int) []int) {
	lines, first, last, start := rc.X1-rc.X0, rc.Y0, rc.Y1, rc.Y0
	if rows {
		lines, first, last, start = rc.Y1-rc.Y0, rc.X0, rc.X1, rc.X0
	}
	for j := range lines {
		point := func(i int) api.Point {
			if rows {
				return api.Point{X: i, Y: rc.Y0 + j}
			}
			return api.Point{X: rc.X0 + j, Y: i}
		}
		var line []int
		for i := first; i < last; i++ {
			line = append(line, g[point(i)])
		}
		for i, v := range f(line, start) {
			g[point(first+i)] = v
		}
	}
}

// needed stops a test whose definitions fail.
func needed(l ...api.Errno) {
	for _, e := range l {
		if e != api.OK {
			panic(e)
		}
	}
}

// forward returns the numbers of both subbands of a line, each at its index.
func forward(k api.Kernel) func(x []int, start int) []int {
	return func(x []int, start int) []int {
		low, high, e := lift.Forward(x, start, k)
		all, f := extend.Join(low, high, start)
		needed(e, f)
		return all
	}
}

// inverse returns the line whose numbers of both subbands stand at their indices.
func inverse(k api.Kernel) func(x []int, start int) []int {
	return func(all []int, start int) []int {
		low, high, e := extend.Split(all, start)
		x, f := lift.Inverse(low, high, start, k)
		needed(e, f)
		return x
	}
}

// orientation returns that of the subband to which a point belongs.
func orientation(x, y int) int { return x%2 + 2*(y%2) }

// table returns the subbands of a plane by the definitions of the chapter.
func table(p api.Plane, k api.Kernel) [4]api.Plane {
	g, rc := grid{}, p.Rect
	for i, v := range p.Data {
		g[api.Point{X: rc.X0 + i%(rc.X1-rc.X0), Y: rc.Y0 + i/(rc.X1-rc.X0)}] = v
	}
	g.each(rc, true, forward(k))
	g.each(rc, false, forward(k))
	var b [4]api.Plane
	for o, part := range parts(rc) {
		b[o].Rect = part
	}
	for y := rc.Y0; y < rc.Y1; y++ {
		for x := rc.X0; x < rc.X1; x++ {
			o := orientation(x, y)
			b[o].Data = append(b[o].Data, g[api.Point{X: x, Y: y}])
		}
	}
	return b
}

// untable returns the plane with these subbands by the definitions of the chapter.
func untable(b [4]api.Plane, rc api.Rect, k api.Kernel) api.Plane {
	g, p := grid{}, pl(rc)
	for o, q := range b {
		i := 0
		for y := q.Rect.Y0; y < q.Rect.Y1; y++ {
			for x := q.Rect.X0; x < q.Rect.X1; x++ {
				g[api.Point{X: 2*x + o%2, Y: 2*y + o/2}] = q.Data[i]
				i++
			}
		}
	}
	g.each(rc, false, inverse(k))
	g.each(rc, true, inverse(k))
	for y := rc.Y0; y < rc.Y1; y++ {
		for x := rc.X0; x < rc.X1; x++ {
			p.Data = append(p.Data, g[api.Point{X: x, Y: y}])
		}
	}
	return p
}

// sign returns -1 if a bit of a number is set, and 1 otherwise.
func sign(bits, i int) int { return 1 - 2*(bits>>i&1) }

func same(a, b [4]api.Plane) bool {
	return slices.EqualFunc(a[:], b[:], plane.Same)
}

func zero(p api.Plane) bool { return plane.Same(p, api.Plane{}) }

// P5.1
func TestBands(t *testing.T) {
	for _, rc := range append(rects(0, 6), larger...) {
		if b := dwt.Bands(rc); b != parts(rc) {
			t.Errorf("Bands(%v) = %v; expected %v", rc, b, parts(rc))
		}
	}
	for _, rc := range notValid {
		if b := dwt.Bands(rc); b != [4]api.Rect{} {
			t.Errorf("Bands(%v) = %v", rc, b)
		}
	}
}

// P5.5
func TestBandsDivideThePoints(t *testing.T) {
	for _, rc := range rects(0, 6) {
		b := dwt.Bands(rc)
		area := 0
		for _, part := range b {
			if !rect.Valid(part) {
				t.Fatalf("Bands(%v) = %v", rc, b)
			}
			area += rect.Area(part)
		}
		if area != rect.Area(rc) {
			t.Errorf("the subbands of %v have %d points", rc, area)
		}
		for y := range 9 {
			for x := range 9 {
				in := rect.Has(b[orientation(x, y)], api.Point{X: x / 2, Y: y / 2})
				if in != rect.Has(rc, api.Point{X: x, Y: y}) {
					t.Errorf("Bands(%v) = %v: the point (%d, %d) has a coefficient: %v", rc, b, x, y, in)
				}
			}
		}
	}
}

// check compares Split of a plane with the definitions, and Merge of the subbands with the plane.
func check(t *testing.T, p api.Plane, k api.Kernel) {
	t.Helper()
	b, e := dwt.Split(p, k)
	if want := table(p, k); e != api.OK || !same(b, want) {
		t.Fatalf("Split(%v, %d) = %v, %d; expected %v", p, k, b, e, want)
	}
	if back, e := dwt.Merge(b, p.Rect, k); e != api.OK || !plane.Same(back, p) {
		t.Fatalf("Merge(%v, %v, %d) = %v, %d; expected %v", b, p.Rect, k, back, e, p)
	}
}

// P5.2, P5.3, P5.4
func TestSmallPlanes(t *testing.T) {
	for _, k := range kernels {
		for i, rc := range rects(0, 6) {
			check(t, scattered(uint64(i), rc, 9), k)
			check(t, scattered(uint64(i), rc, api.MaxValue/8), k)
		}
	}
}

// P5.2, P5.3, P5.4
func TestLargerPlanes(t *testing.T) {
	for _, k := range kernels {
		for i, rc := range larger {
			check(t, scattered(uint64(i), rc, 300), k)
			check(t, scattered(uint64(i), rc, api.MaxValue/8), k)
		}
	}
}

// P5.2, P5.3, P5.4
func TestTheLargestPlanes(t *testing.T) {
	for _, k := range kernels {
		for i, rc := range []api.Rect{r(0, 0, 1024, 1024), r(3071, 1, 4095, 1025), r(0, 5, api.MaxSide, 261), r(7, 0, 263, api.MaxSide)} {
			p := scattered(uint64(i), rc, 1000)
			b, e := dwt.Split(p, k)
			if e != api.OK {
				t.Fatalf("Split of %v, kernel %d: error %d", rc, k, e)
			}
			if back, e := dwt.Merge(b, rc, k); e != api.OK || !plane.Same(back, p) {
				t.Errorf("Merge of the subbands of %v, kernel %d: error %d, or another plane", rc, k, e)
			}
		}
	}
}

// subbands returns scattered coefficients for a rectangle.
func subbands(seed int, rc api.Rect, b int) [4]api.Plane {
	var l [4]api.Plane
	for o, part := range parts(rc) {
		l[o] = scattered(uint64(4*seed+o), part, b)
	}
	return l
}

// P5.3
func TestMergeOfAnyCoefficients(t *testing.T) {
	for _, k := range kernels {
		for i, rc := range append(rects(0, 5), larger...) {
			for _, bound := range []int{7, api.MaxValue} {
				b := subbands(i, rc, bound)
				p, e := dwt.Merge(b, rc, k)
				if want := untable(b, rc, k); e != api.OK || !plane.Same(p, want) {
					t.Fatalf("Merge(%v, %v, %d) = %v, %d; expected %v", b, rc, k, p, e, want)
				}
			}
		}
	}
}

// P5.2, P5.3
func TestNumbersAtTheEndsOfTheRange(t *testing.T) {
	fill := func(rc api.Rect, v, w int) api.Plane {
		p := pl(rc)
		for y := rc.Y0; y < rc.Y1; y++ {
			for x := rc.X0; x < rc.X1; x++ {
				p.Data = append(p.Data, []int{v, w}[(x+y)%2])
			}
		}
		return p
	}
	for _, k := range kernels {
		for _, rc := range []api.Rect{r(0, 0, 9, 8), r(1, 1, 8, 10), r(0, 1, 1, 9), r(3, 2, 12, 3), r(5, 5, 6, 6)} {
			for signs := range 4 {
				most := api.MaxValue / 8
				check(t, fill(rc, sign(signs, 0)*most, sign(signs, 1)*most), k)
			}
			for signs := range 1 << 8 {
				var b [4]api.Plane
				for o, part := range parts(rc) {
					b[o] = fill(part, sign(signs, 2*o)*api.MaxValue, sign(signs, 2*o+1)*api.MaxValue)
				}
				if p, e := dwt.Merge(b, rc, k); e != api.OK || !plane.Same(p, untable(b, rc, k)) {
					t.Fatalf("Merge(%v, %v, %d) = %v, %d; expected %v", b, rc, k, p, e, untable(b, rc, k))
				}
			}
		}
	}
}

// broken returns planes that are not valid, each for another reason.
func broken() []api.Plane {
	l := []api.Plane{
		pl(r(0, 0, 2, 2), 1, 2, 3), pl(r(0, 0, 2, 2), 1, 2, 3, 4, 5), pl(r(0, 0, 2, 2)), pl(r(3, 3, 3, 4), 1),
		{Rect: r(0, 0, 1024, 1025), Data: make([]int, 1024*1025)},
	}
	for _, rc := range notValid {
		l = append(l, pl(rc), pl(rc, 1, 2, 3, 4))
	}
	return l
}

// large returns planes whose only number out of range is at different places.
func large(rc api.Rect, most int) []api.Plane {
	var l []api.Plane
	for _, v := range []int{most + 1, -most - 1, math.MaxInt, math.MinInt} {
		for i := range rect.Area(rc) {
			p := pl(rc, make([]int, rect.Area(rc))...)
			p.Data[i] = v
			l = append(l, p)
		}
	}
	return l
}

func expectSplit(t *testing.T, p api.Plane, k api.Kernel, want api.Errno) {
	t.Helper()
	b, e := dwt.Split(p, k)
	if e != want || e != api.OK && !same(b, [4]api.Plane{}) {
		t.Errorf("Split of %v with %d samples, kernel %d: error %d; expected %d", p.Rect, len(p.Data), k, e, want)
	}
}

// P5.2
func TestSplitErrorsInTheirOrder(t *testing.T) {
	rc := r(3, 2, 6, 4)
	for _, k := range kernels {
		for _, p := range broken() {
			expectSplit(t, p, k, api.ErrArg)
		}
		for _, p := range large(rc, api.MaxValue/8) {
			expectSplit(t, p, k, api.ErrRange)
		}
		expectSplit(t, pl(r(1, 1, 2, 2), math.MinInt), k, api.ErrRange)
		expectSplit(t, api.Plane{}, k, api.OK)
	}
	for _, k := range strangers {
		for _, p := range broken() {
			expectSplit(t, p, k, api.ErrArg)
		}
		for _, p := range large(rc, api.MaxValue/8) {
			expectSplit(t, p, k, api.ErrKind)
		}
		expectSplit(t, scattered(1, rc, 9), k, api.ErrKind)
		expectSplit(t, api.Plane{}, k, api.ErrKind)
	}
	// A plane that is not valid may contain numbers out of range, too.
	expectSplit(t, pl(r(0, 0, 2, 1), math.MinInt), 0, api.ErrArg)
}

func expectMerge(t *testing.T, b [4]api.Plane, rc api.Rect, k api.Kernel, want api.Errno) {
	t.Helper()
	p, e := dwt.Merge(b, rc, k)
	if e != want || e != api.OK && !zero(p) {
		t.Errorf("Merge of %v, %v, %v and %v to %v, kernel %d: error %d; expected %d", b[0].Rect, b[1].Rect, b[2].Rect, b[3].Rect, rc, k, e, want)
	}
}

// P5.3
func TestMergeErrorsInTheirOrder(t *testing.T) {
	rc := r(3, 2, 6, 5)
	fine := subbands(1, rc, 9)
	tooLarge := []api.Rect{r(0, 0, 1024, 1025), r(0, 0, api.MaxSide, 257), r(0, 0, api.MaxSide, api.MaxSide)}
	for _, k := range append(slices.Clone(kernels), strangers...) {
		for _, bad := range append(slices.Clone(notValid), tooLarge...) {
			expectMerge(t, fine, bad, k, api.ErrRange)
			expectMerge(t, [4]api.Plane{}, bad, k, api.ErrRange)
		}
	}
	for _, k := range strangers {
		expectMerge(t, fine, rc, k, api.ErrKind)
		expectMerge(t, [4]api.Plane{}, rc, k, api.ErrKind)
		expectMerge(t, [4]api.Plane{0: pl(fine[0].Rect, math.MinInt, 0)}, rc, k, api.ErrKind)
	}
	for _, k := range kernels {
		expectMerge(t, fine, rc, k, api.OK)
		expectMerge(t, [4]api.Plane{}, api.Rect{}, k, api.OK)
		expectMerge(t, [4]api.Plane{}, rc, k, api.ErrArg)
		for o := range fine {
			for _, bad := range broken() {
				b := fine
				b[o] = bad
				expectMerge(t, b, rc, k, api.ErrArg)
			}
			for _, p := range large(fine[o].Rect, api.MaxValue) {
				b := fine
				b[o] = p
				expectMerge(t, b, rc, k, api.ErrRange)
				for other := range b {
					c := b
					c[other].Data = append(slices.Clone(c[other].Data), 0)
					expectMerge(t, c, rc, k, api.ErrArg)
				}
			}
		}
	}
}

// P5.3
func TestMergeOfPlanesAtOtherPlaces(t *testing.T) {
	for _, rc := range []api.Rect{r(3, 2, 6, 5), r(0, 0, 2, 2), r(1, 0, 2, 2), r(4, 3, 4, 5), r(5, 5, 5, 5)} {
		fine := subbands(1, rc, 9)
		for o, p := range fine {
			for _, shift := range []api.Rect{r(1, 0, 1, 0), r(0, 1, 0, 1), r(0, 0, 1, 0), r(0, 0, 0, 1)} {
				b := fine
				s := p.Rect
				b[o] = scattered(1, r(s.X0+shift.X0, s.Y0+shift.Y0, s.X1+shift.X1, s.Y1+shift.Y1), 9)
				expectMerge(t, b, rc, api.LeGall, api.ErrArg)
			}
		}
	}
	// HL and LH of a square at an odd place have the same size, but not the same place.
	b := subbands(1, r(1, 1, 3, 3), 9)
	b[api.HL], b[api.LH] = b[api.LH], b[api.HL]
	expectMerge(t, b, r(1, 1, 3, 3), api.Haar, api.ErrArg)
}

// P5.6
func TestOffset(t *testing.T) {
	for _, k := range kernels {
		for i, rc := range append(rects(0, 5), larger...) {
			constant := api.LL
			if rc.X1-rc.X0 == 1 && rc.X0%2 == 1 {
				constant += api.HL
			}
			if rc.Y1-rc.Y0 == 1 && rc.Y0%2 == 1 {
				constant += api.LH
			}
			p := scattered(uint64(i), rc, 50)
			want, _ := dwt.Split(p, k)
			for _, offset := range []int{1, -7, api.MaxValue/8 - 50} {
				moved, expected := pl(rc), want
				for _, v := range p.Data {
					moved.Data = append(moved.Data, v+offset)
				}
				expected[constant] = pl(want[constant].Rect)
				for _, v := range want[constant].Data {
					expected[constant].Data = append(expected[constant].Data, v+offset)
				}
				if b, e := dwt.Split(moved, k); e != api.OK || !same(b, expected) {
					t.Fatalf("Split(%v, %d) = %v, %d; expected %v", moved, k, b, e, expected)
				}
			}
		}
	}
}

// P5.7
func TestBounds(t *testing.T) {
	for _, k := range kernels {
		for _, b := range []int{0, 1, 2, 3, 10, api.MaxValue / 8} {
			low, high := lift.LowBound(b, k), lift.HighBound(b, k)
			bounds := [4]int{lift.LowBound(low, k), lift.LowBound(high, k), lift.HighBound(low, k), lift.HighBound(high, k)}
			for _, rc := range []api.Rect{r(0, 0, 3, 3), r(1, 0, 4, 3), r(0, 1, 3, 4), r(1, 1, 4, 4), r(0, 0, 9, 1), r(1, 1, 2, 10), r(0, 1, 5, 3)} {
				for signs := range 1 << rect.Area(rc) {
					p := pl(rc)
					for i := range rect.Area(rc) {
						p.Data = append(p.Data, sign(signs, i)*b)
					}
					l, e := dwt.Split(p, k)
					for o, q := range l {
						least, greatest, _ := plane.Limits(q)
						if e != api.OK || least < -bounds[o] || greatest > bounds[o] {
							t.Fatalf("Split(%v, %d) = %v, %d; the bounds are %v", p, k, l, e, bounds)
						}
					}
				}
			}
		}
	}
}

// overwrite stores a mark into a slice and the capacity behind it.
func overwrite(l []int) {
	for i := range l[:cap(l)] {
		l[:cap(l)][i] = -12345
	}
}

// R6
func TestArgumentsAndResultsAreKeptApart(t *testing.T) {
	for _, k := range kernels {
		for _, rc := range []api.Rect{r(3, 2, 7, 5), r(0, 0, 1, 1), r(1, 1, 2, 2), r(0, 0, 4, 1), r(1, 0, 2, 4)} {
			behind := scattered(1, r(0, 0, 20, 1), 50).Data
			before := slices.Clone(behind)
			p := pl(rc, behind[:rect.Area(rc)]...)
			want := table(p, k)
			b, _ := dwt.Split(p, k)
			for o := range b {
				if !plane.Same(b[o], want[o]) {
					t.Errorf("Split of %v, kernel %d: subband %d shares memory with another", rc, k, o)
				}
				overwrite(b[o].Data)
			}
			if !slices.Equal(behind, before) {
				t.Errorf("Split of %v, kernel %d, changed the plane", rc, k)
			}
			kept := want
			for o := range want {
				want[o].Data = append(slices.Clone(want[o].Data), 1, 2, 3)[:len(want[o].Data)]
				kept[o].Data = slices.Clone(want[o].Data[:cap(want[o].Data)])
			}
			back, e := dwt.Merge(want, rc, k)
			if e != api.OK || !slices.Equal(back.Data, before[:rect.Area(rc)]) {
				t.Errorf("Merge(%v, %v, %d) = %v, %d", want, rc, k, back, e)
			}
			overwrite(back.Data)
			for o := range want {
				if !slices.Equal(want[o].Data[:cap(want[o].Data)], kept[o].Data) {
					t.Errorf("Merge to %v, kernel %d, changed subband %d", rc, k, o)
				}
			}
		}
	}
}

// The examples of the chapter.
func TestExamples(t *testing.T) {
	if b := dwt.Bands(r(1, 0, 4, 3)); b != [4]api.Rect{r(1, 0, 2, 2), r(0, 0, 2, 2), r(1, 0, 2, 1), r(0, 0, 2, 1)} {
		t.Errorf("Bands of (1, 0) to (4, 3) = %v", b)
	}
	one := r(0, 0, 1, 1)
	for _, c := range []struct {
		p    api.Plane
		want [4]api.Plane
	}{
		{pl(r(0, 0, 2, 2), 1, 3, 5, 11), [4]api.Plane{pl(one, 5), pl(one, 4), pl(one, 6), pl(one, 4)}},
		{pl(r(1, 0, 2, 2), 7, 9), [4]api.Plane{pl(r(1, 0, 1, 1)), pl(one, 8), pl(r(1, 0, 1, 1)), pl(one, 2)}},
	} {
		if b, e := dwt.Split(c.p, api.Haar); e != api.OK || !same(b, c.want) {
			t.Errorf("Split(%v, Haar) = %v, %d; expected %v", c.p, b, e, c.want)
		}
		if p, e := dwt.Merge(c.want, c.p.Rect, api.Haar); e != api.OK || !plane.Same(p, c.p) {
			t.Errorf("Merge(%v, Haar) = %v, %d; expected %v", c.want, p, e, c.p)
		}
	}
}
