package pyramid_test

import (
	"math"
	"math/rand/v2"
	"slices"
	"testing"

	"wavelet/api"
	"wavelet/dwt"
	"wavelet/lift"
	"wavelet/plane"
	"wavelet/pyramid"
	"wavelet/rect"
)

var kernels = []api.Kernel{api.Haar, api.LeGall, api.Binary97}

// strangers are kernels that are none.
var strangers = []api.Kernel{0, 4, -1, math.MinInt, math.MaxInt}

// noLevels are numbers of levels that are none.
var noLevels = []int{math.MinInt, -2, -1, api.MaxLevels + 1, api.MaxLevels + 2, math.MaxInt}

func r(x0, y0, x1, y1 int) api.Rect { return api.Rect{X0: x0, Y0: y0, X1: x1, Y1: y1} }

func pl(rc api.Rect, data ...int) api.Plane { return api.Plane{Rect: rc, Data: data} }

// some are valid rectangles with odd and even corners, single rows and columns, empty ones, and some at the end of the grid.
var some = []api.Rect{
	{}, r(0, 0, 1, 1), r(1, 1, 2, 2), r(1, 0, 8, 5), r(0, 0, 16, 16), r(3, 2, 20, 9), r(5, 7, 28, 26), r(2, 13, 35, 20),
	r(6, 9, 7, 40), r(9, 6, 40, 7), r(2, 11, 3, 30), r(11, 2, 30, 3), r(31, 31, 33, 33), r(32, 32, 33, 64),
	r(3, 3, 3, 9), r(4, 7, 9, 7), r(5, 5, 5, 5),
	r(api.MaxSide-9, api.MaxSide-6, api.MaxSide, api.MaxSide), r(api.MaxSide-1, 0, api.MaxSide, 13),
	r(0, api.MaxSide, 12, api.MaxSide), r(api.MaxSide, api.MaxSide, api.MaxSide, api.MaxSide),
}

// notValid are rectangles that are not valid.
var notValid = []api.Rect{
	r(-1, 0, 2, 2), r(0, -1, 2, 2), r(3, 0, 2, 2), r(0, 3, 2, 2), r(0, 0, api.MaxSide+1, 2), r(0, 0, 2, api.MaxSide+1),
	r(-2, -2, -2, -2), r(api.MaxSide+1, 0, api.MaxSide+1, 0),
	r(math.MinInt, math.MinInt, math.MaxInt, math.MaxInt), r(math.MaxInt, math.MaxInt, math.MinInt, math.MinInt),
}

// rects returns all valid rectangles, also empty ones, with coordinates from low to high.
func rects(low, high int) []api.Rect {
	var l []api.Rect
	for x0 := low; x0 <= high; x0++ {
		for y0 := low; y0 <= high; y0++ {
			for x1 := x0; x1 <= high; x1++ {
				for y1 := y0; y1 <= high; y1++ {
					l = append(l, r(x0, y0, x1, y1))
				}
			}
		}
	}
	return l
}

// scattered returns a plane of numbers from -b to b, the same for the same seed.
func scattered(seed int, rc api.Rect, b int) api.Plane {
	source := rand.New(rand.NewPCG(uint64(seed), 3))
	p := pl(rc)
	for range rect.Area(rc) {
		p.Data = append(p.Data, source.IntN(2*b+1)-b)
	}
	return p
}

// reduced returns a resolution by the formula of the chapter.
func reduced(rc api.Rect, levels, res int) api.Rect {
	up := func(v int) int {
		for range levels - res {
			v = (v + 1) / 2
		}
		return v
	}
	return r(up(rc.X0), up(rc.Y0), up(rc.X1), up(rc.Y1))
}

// layout returns the rectangles of all subbands, in their order.
func layout(rc api.Rect, levels int) []api.Rect {
	l := []api.Rect{reduced(rc, levels, 0)}
	for res := 1; res <= levels; res++ {
		b := dwt.Bands(reduced(rc, levels, res))
		l = append(l, b[1:]...)
	}
	return l
}

// subbands returns scattered coefficients for the subbands of a rectangle.
func subbands(seed int, rc api.Rect, levels, b int) []api.Plane {
	var l []api.Plane
	for i, part := range layout(rc, levels) {
		l = append(l, scattered(100*seed+i, part, b))
	}
	return l
}

func same(a, b []api.Plane) bool { return slices.EqualFunc(a, b, plane.Same) }

func zero(p api.Plane) bool { return plane.Same(p, api.Plane{}) }

// needed stops a test whose definitions fail.
func needed(e api.Errno) {
	if e != api.OK {
		panic(e)
	}
}

// analyzed returns the subbands by the definitions of the chapter, from the highest resolution on.
func analyzed(p api.Plane, levels int, k api.Kernel) []api.Plane {
	if levels == 0 {
		return []api.Plane{p}
	}
	b, e := dwt.Split(p, k)
	needed(e)
	return append(analyzed(b[0], levels-1, k), b[1:]...)
}

// synthesized returns a resolution by the definitions of the chapter.
func synthesized(bands []api.Plane, rc api.Rect, levels, res int, k api.Kernel) api.Plane {
	p := bands[0]
	for n := 1; n <= res; n++ {
		var e api.Errno
		p, e = dwt.Merge([4]api.Plane{p, bands[3*n-2], bands[3*n-1], bands[3*n]}, reduced(rc, levels, n), k)
		needed(e)
	}
	return p
}

// P6.1
func TestCount(t *testing.T) {
	for levels, want := range []int{1, 4, 7, 10, 13, 16} {
		if n := pyramid.Count(levels); n != want {
			t.Errorf("Count(%d) = %d; expected %d", levels, n, want)
		}
	}
	for _, levels := range noLevels {
		if n := pyramid.Count(levels); n != 0 {
			t.Errorf("Count(%d) = %d", levels, n)
		}
	}
}

// P6.1
func TestPlaceAndIndices(t *testing.T) {
	for levels := range api.MaxLevels + 1 {
		check := func(res int, want ...int) {
			t.Helper()
			if l := pyramid.Indices(levels, res); !slices.Equal(l, want) {
				t.Errorf("Indices(%d, %d) = %v; expected %v", levels, res, l, want)
			}
		}
		place := func(index, level int, o api.Orient) {
			t.Helper()
			if a, b, ok := pyramid.Place(index, levels); a != level || b != o || !ok {
				t.Errorf("Place(%d, %d) = %d, %d, %v; expected %d, %d", index, levels, a, b, ok, level, o)
			}
		}
		check(0, 0)
		place(0, levels, api.LL)
		index := 1
		for res := 1; res <= levels; res++ {
			check(res, index, index+1, index+2)
			for _, o := range []api.Orient{api.HL, api.LH, api.HH} {
				place(index, levels-res+1, o)
				index++
			}
		}
		for _, res := range []int{math.MinInt, -2, -1, levels + 1, levels + 2, math.MaxInt} {
			check(res)
		}
		for _, i := range []int{math.MinInt, -2, -1, index, index + 1, math.MaxInt} {
			if level, o, ok := pyramid.Place(i, levels); level != 0 || o != 0 || ok {
				t.Errorf("Place(%d, %d) = %d, %d, %v", i, levels, level, o, ok)
			}
		}
	}
}

// P6.1
func TestPlaceAndIndicesWithoutLevels(t *testing.T) {
	for _, levels := range noLevels {
		for _, i := range []int{math.MinInt, -1, 0, 1, 3, 18, levels, math.MaxInt} {
			if level, o, ok := pyramid.Place(i, levels); level != 0 || o != 0 || ok {
				t.Errorf("Place(%d, %d) = %d, %d, %v", i, levels, level, o, ok)
			}
			if l := pyramid.Indices(levels, i); len(l) != 0 {
				t.Errorf("Indices(%d, %d) = %v", levels, i, l)
			}
		}
	}
}

// P6.2
func TestResolutionsAndBands(t *testing.T) {
	for _, rc := range append(rects(0, 4), some...) {
		for levels := range api.MaxLevels + 1 {
			for res := range levels + 1 {
				want := reduced(rc, levels, res)
				if got := pyramid.Resolution(rc, levels, res); got != want {
					t.Errorf("Resolution(%v, %d, %d) = %v; expected %v", rc, levels, res, got, want)
				}
				if res < levels && dwt.Bands(pyramid.Resolution(rc, levels, res+1))[api.LL] != want {
					t.Errorf("Resolution(%v, %d, %d) is not the subband LL of the next one", rc, levels, res)
				}
			}
			for i, want := range layout(rc, levels) {
				if got := pyramid.Band(rc, levels, i); got != want {
					t.Errorf("Band(%v, %d, %d) = %v; expected %v", rc, levels, i, got, want)
				}
			}
		}
	}
}

// P6.2
func TestResolutionsAndBandsThatAreNone(t *testing.T) {
	check := func(rc api.Rect, levels, n int) {
		t.Helper()
		if got := pyramid.Resolution(rc, levels, n); got != (api.Rect{}) {
			t.Errorf("Resolution(%v, %d, %d) = %v", rc, levels, n, got)
		}
		if got := pyramid.Band(rc, levels, n); got != (api.Rect{}) {
			t.Errorf("Band(%v, %d, %d) = %v", rc, levels, n, got)
		}
	}
	for _, rc := range notValid {
		for levels := range api.MaxLevels + 1 {
			for n := range 3*levels + 1 {
				check(rc, levels, n)
			}
		}
	}
	fine := r(3, 3, 60, 60)
	for _, levels := range noLevels {
		for _, n := range []int{math.MinInt, -1, 0, 1, levels, math.MaxInt} {
			check(fine, levels, n)
		}
	}
	for levels := range api.MaxLevels + 1 {
		for _, n := range []int{math.MinInt, -1, 3*levels + 1, math.MaxInt} {
			check(fine, levels, n)
		}
		if got := pyramid.Resolution(fine, levels, levels+1); got != (api.Rect{}) {
			t.Errorf("Resolution(%v, %d, %d) = %v", fine, levels, levels+1, got)
		}
	}
}

// check compares Analyze with the definitions, and Synthesize of the subbands with the resolutions.
func check(t *testing.T, p api.Plane, levels int, k api.Kernel) {
	t.Helper()
	bands, e := pyramid.Analyze(p, levels, k)
	if want := analyzed(p, levels, k); e != api.OK || !same(bands, want) {
		t.Fatalf("Analyze(%v, %d, %d) = %v, %d; expected %v", p, levels, k, bands, e, want)
	}
	for res := levels; res >= 0; res-- {
		low, e := pyramid.Synthesize(bands, p.Rect, levels, res, k)
		// With all levels this is the plane, with one less the subband LL that dwt.Split of it returns.
		if want := analyzed(p, levels-res, k)[0]; e != api.OK || !plane.Same(low, want) {
			t.Fatalf("Synthesize(%v, %v, %d, %d, %d) = %v, %d; expected %v", bands, p.Rect, levels, res, k, low, e, want)
		}
	}
}

// P6.3, P6.4, P6.7, P6.8
func TestSmallPlanes(t *testing.T) {
	for _, k := range kernels {
		for i, rc := range rects(0, 5) {
			for levels := range 4 {
				check(t, scattered(i, rc, 9), levels, k)
			}
		}
	}
}

// P6.3, P6.4, P6.7, P6.8
func TestLargerPlanes(t *testing.T) {
	for _, k := range kernels {
		for i, rc := range some {
			for levels := range api.MaxLevels + 1 {
				check(t, scattered(i, rc, 300), levels, k)
				check(t, scattered(i, rc, api.MaxSample), levels, k)
			}
		}
	}
}

// P6.3, P6.4, P6.7
func TestTheLargestPlanes(t *testing.T) {
	for _, k := range kernels {
		for i, rc := range []api.Rect{r(0, 0, 1024, 1024), r(0, 5, api.MaxSide, 261)} {
			p := scattered(i, rc, api.MaxSample)
			bands, e := pyramid.Analyze(p, api.MaxLevels, k)
			if e != api.OK || len(bands) != 16 {
				t.Fatalf("Analyze of %v, kernel %d: %d subbands, error %d", rc, k, len(bands), e)
			}
			if back, e := pyramid.Synthesize(bands, rc, api.MaxLevels, api.MaxLevels, k); e != api.OK || !plane.Same(back, p) {
				t.Errorf("Synthesize to %v, kernel %d: error %d, or another plane", rc, k, e)
			}
		}
	}
}

// P6.4
func TestSynthesizeOfAnyCoefficients(t *testing.T) {
	for _, k := range kernels {
		for i, rc := range some {
			for levels := range api.MaxLevels + 1 {
				for _, bound := range []int{7, api.MaxCoefficient} {
					bands := subbands(i, rc, levels, bound)
					for res := range levels + 1 {
						p, e := pyramid.Synthesize(bands, rc, levels, res, k)
						if want := synthesized(bands, rc, levels, res, k); e != api.OK || !plane.Same(p, want) {
							t.Fatalf("Synthesize(%v, %v, %d, %d, %d) = %v, %d; expected %v", bands, rc, levels, res, k, p, e, want)
						}
					}
				}
			}
		}
	}
}

// P6.4
func TestSynthesizeAtTheEndsOfTheRange(t *testing.T) {
	rc := r(1, 2, 66, 63)
	for _, k := range kernels {
		for signs := range 1 << 4 {
			bands := subbands(1, rc, api.MaxLevels, 1)
			for i, b := range bands {
				sign := 1
				if _, o, _ := pyramid.Place(i, api.MaxLevels); signs>>o&1 != 0 {
					sign = -1
				}
				for j := range b.Data {
					b.Data[j] = sign * api.MaxCoefficient
				}
			}
			p, e := pyramid.Synthesize(bands, rc, api.MaxLevels, api.MaxLevels, k)
			if e != api.OK || !plane.Same(p, synthesized(bands, rc, api.MaxLevels, api.MaxLevels, k)) {
				t.Fatalf("Synthesize, kernel %d, signs %b: error %d, or another plane", k, signs, e)
			}
		}
	}
}

// broken returns planes that are not valid, each for another reason.
func broken() []api.Plane {
	l := []api.Plane{
		pl(r(0, 0, 2, 2), 1, 2, 3), pl(r(0, 0, 2, 2), 1, 2, 3, 4, 5), pl(r(0, 0, 2, 2)), pl(r(3, 3, 3, 4), 1),
		{Rect: r(0, 0, 1024, 1025), Data: make([]int, 1024*1025)},
	}
	for _, rc := range notValid {
		l = append(l, pl(rc), pl(rc, 1, 2, 3, 4))
	}
	return l
}

// large returns planes whose only number out of range is at different places.
func large(rc api.Rect, most int) []api.Plane {
	var l []api.Plane
	for _, v := range []int{most + 1, -most - 1, math.MaxInt, math.MinInt} {
		for i := range rect.Area(rc) {
			p := pl(rc, make([]int, rect.Area(rc))...)
			p.Data[i] = v
			l = append(l, p)
		}
	}
	return l
}

// P6.3
func TestAnalyzeErrorsInTheirOrder(t *testing.T) {
	expect := func(p api.Plane, levels int, k api.Kernel, want api.Errno) {
		t.Helper()
		bands, e := pyramid.Analyze(p, levels, k)
		if e != want || e != api.OK && len(bands) != 0 {
			t.Errorf("Analyze of %v with %d samples, %d levels, kernel %d: %d subbands, error %d; expected %d", p.Rect, len(p.Data), levels, k, len(bands), e, want)
		}
	}
	rc := r(3, 2, 6, 4)
	fine := scattered(1, rc, api.MaxSample)
	allKernels := append(slices.Clone(kernels), strangers...)
	for _, p := range broken() {
		for _, k := range allKernels {
			for _, levels := range []int{-1, 0, 1, api.MaxLevels, api.MaxLevels + 1} {
				expect(p, levels, k, api.ErrArg)
			}
		}
	}
	for _, k := range strangers {
		for _, levels := range append([]int{0, 1, api.MaxLevels}, noLevels...) {
			expect(fine, levels, k, api.ErrKind)
			expect(api.Plane{}, levels, k, api.ErrKind)
			expect(pl(rc, 0, 0, 0, 0, 0, math.MinInt), levels, k, api.ErrKind)
		}
	}
	for _, k := range kernels {
		for _, levels := range noLevels {
			expect(fine, levels, k, api.ErrRange)
			expect(api.Plane{}, levels, k, api.ErrRange)
		}
		for levels := range api.MaxLevels + 1 {
			expect(fine, levels, k, api.OK)
			expect(pl(r(1, 1, 3, 2), api.MaxSample, -api.MaxSample), levels, k, api.OK)
			expect(api.Plane{}, levels, k, api.OK)
			for _, p := range large(rc, api.MaxSample) {
				expect(p, levels, k, api.ErrRange)
			}
		}
	}
}

func expectSynthesize(t *testing.T, bands []api.Plane, rc api.Rect, levels, res int, k api.Kernel, want api.Errno) {
	t.Helper()
	p, e := pyramid.Synthesize(bands, rc, levels, res, k)
	if e != want || e != api.OK && !zero(p) {
		t.Errorf("Synthesize of %d subbands to %v, %d levels, resolution %d, kernel %d: error %d; expected %d", len(bands), rc, levels, res, k, e, want)
	}
}

// P6.4
func TestSynthesizeErrorsInTheirOrder(t *testing.T) {
	const levels = 2
	rc := r(3, 2, 12, 9)
	fine := subbands(1, rc, levels, 9)
	lists := [][]api.Plane{nil, fine, fine[:6], append(slices.Clone(fine), api.Plane{}), make([]api.Plane, 7)}
	for _, k := range append(slices.Clone(kernels), strangers...) {
		for _, bands := range lists {
			for _, bad := range notValid {
				expectSynthesize(t, bands, bad, levels, levels, k, api.ErrRange)
			}
			for _, none := range noLevels {
				expectSynthesize(t, bands, rc, none, 0, k, api.ErrRange)
				expectSynthesize(t, bands, rc, none, none, k, api.ErrRange)
			}
			for _, none := range []int{math.MinInt, -1, levels + 1, math.MaxInt} {
				expectSynthesize(t, bands, rc, levels, none, k, api.ErrRange)
			}
			expectSynthesize(t, bands, r(0, 0, 2048, 2049), levels, 1, k, api.ErrRange)
			expectSynthesize(t, bands, r(0, 0, 1024, 1025), 0, 0, k, api.ErrRange)
		}
	}
	for _, k := range strangers {
		for _, bands := range lists {
			for res := range levels + 1 {
				expectSynthesize(t, bands, rc, levels, res, k, api.ErrKind)
			}
			expectSynthesize(t, bands, r(0, 0, 1024, 1024), levels, levels, k, api.ErrKind)
		}
	}
	for _, k := range kernels {
		for res := range levels + 1 {
			expectSynthesize(t, fine, rc, levels, res, k, api.OK)
			for _, n := range []int{0, 1, 4, 6, 8, 10} {
				bands := append(slices.Clone(fine), fine...)[:n]
				expectSynthesize(t, bands, rc, levels, res, k, api.ErrLength)
				// Neither planes that are not valid nor large numbers come before the length.
				expectSynthesize(t, make([]api.Plane, n), rc, levels, res, k, api.ErrLength)
			}
		}
	}
}

// P6.4
func TestSynthesizeChecksThePlanesThatItUses(t *testing.T) {
	const levels = 2
	for _, rc := range []api.Rect{r(3, 2, 8, 7), r(4, 4, 8, 8), r(5, 3, 6, 9), r(3, 3, 3, 9)} {
		fine := subbands(1, rc, levels, 9)
		// with returns the list with another plane at an index.
		with := func(l []api.Plane, i int, p api.Plane) []api.Plane {
			l = slices.Clone(l)
			l[i] = p
			return l
		}
		bad := func(i, res int, p api.Plane, k api.Kernel, want api.Errno) {
			t.Helper()
			bands := with(fine, i, p)
			if i > 3*res {
				want = api.OK
				got, _ := pyramid.Synthesize(bands, rc, levels, res, k)
				if !plane.Same(got, synthesized(fine, rc, levels, res, k)) {
					t.Errorf("Synthesize to %v, resolution %d, kernel %d, depends on the subband %d", rc, res, k, i)
				}
			}
			expectSynthesize(t, bands, rc, levels, res, k, want)
		}
		for i, b := range fine {
			for res := range levels + 1 {
				for _, k := range kernels {
					for _, p := range broken() {
						bad(i, res, p, k, api.ErrArg)
					}
					s := b.Rect
					for _, moved := range []api.Rect{r(s.X0+1, s.Y0, s.X1+1, s.Y1), r(s.X0, s.Y0+1, s.X1, s.Y1+1), r(s.X0, s.Y0, s.X1+1, s.Y1), r(s.X0, s.Y0, s.X1, s.Y1+1)} {
						bad(i, res, scattered(i, moved, 9), k, api.ErrArg)
					}
					for _, p := range large(s, api.MaxCoefficient) {
						bad(i, res, p, k, api.ErrRange)
						// Whichever of the planes has which fault, a plane that is not valid comes first.
						for j := range 3*res + 1 {
							if j != i {
								expectSynthesize(t, with(with(fine, i, p), j, pl(s, make([]int, len(b.Data)+1)...)), rc, levels, res, k, api.ErrArg)
							}
						}
					}
				}
			}
		}
	}
}

// P6.4
func TestSynthesizeOfLargeRectangles(t *testing.T) {
	whole := r(0, 0, api.MaxSide, api.MaxSide)
	for _, k := range kernels {
		bands := make([]api.Plane, pyramid.Count(api.MaxLevels))
		for i := range 3*3 + 1 {
			bands[i] = scattered(i, layout(whole, api.MaxLevels)[i], 99)
		}
		for res := range 4 {
			p, e := pyramid.Synthesize(bands, whole, api.MaxLevels, res, k)
			if e != api.OK || !plane.Same(p, synthesized(bands, whole, api.MaxLevels, res, k)) {
				t.Errorf("Synthesize of resolution %d of the whole grid, kernel %d: error %d, or another plane", res, k, e)
			}
		}
		expectSynthesize(t, bands, whole, api.MaxLevels, 4, k, api.ErrRange)
		expectSynthesize(t, bands, whole, api.MaxLevels, 5, k, api.ErrRange)
	}
}

// points is a set of points.
type points map[api.Point]bool

func pointsOf(rc api.Rect) points {
	l := points{}
	for y := rc.Y0; y < rc.Y1; y++ {
		for x := rc.X0; x < rc.X1; x++ {
			l[api.Point{X: x, Y: y}] = true
		}
	}
	return l
}

// around returns the points of a set that are at most a margin away from those of another one in each direction.
func around(l, all points, margin int) points {
	near := points{}
	for p := range l {
		for q := range pointsOf(r(p.X-margin, p.Y-margin, p.X+margin+1, p.Y+margin+1)) {
			if all[q] {
				near[q] = true
			}
		}
	}
	return near
}

// neededPoints returns by the definitions of the chapter the points that a window needs of each subband.
func neededPoints(rc api.Rect, levels, res int, window points, k api.Kernel) []points {
	l := make([]points, 3*levels+1)
	w := around(window, pointsOf(reduced(rc, levels, res)), 0)
	for n := res; n > 0; n-- {
		b := [4]points{{}, {}, {}, {}}
		for p := range around(w, pointsOf(reduced(rc, levels, n)), lift.Margin(k)) {
			b[p.X%2+2*(p.Y%2)][api.Point{X: p.X / 2, Y: p.Y / 2}] = true
		}
		w = b[0]
		copy(l[3*n-2:], b[1:])
	}
	l[0] = w
	return l
}

func samePoints(rc api.Rect, l points) bool {
	for p := range l {
		if !rect.Has(rc, p) {
			return false
		}
	}
	return len(pointsOf(rc)) == len(l)
}

// P6.5
func TestNeedHasThePointsOfItsDefinition(t *testing.T) {
	windows := append(rects(-1, 3), r(4, 4, 6, 6), r(7, 2, 9, 30), r(-5, -5, 30, 30), r(9, 9, 10, 10), r(2, 11, 30, 12))
	for _, rc := range []api.Rect{r(0, 0, 12, 12), r(1, 0, 8, 5), r(3, 1, 19, 14), r(5, 1, 6, 14), r(2, 3, 15, 4), r(1, 1, 2, 2), r(3, 3, 3, 9)} {
		for _, k := range kernels {
			for levels := range 4 {
				for res := range levels + 1 {
					for _, window := range windows {
						need := pyramid.Need(rc, levels, res, window, k)
						want := neededPoints(rc, levels, res, pointsOf(window), k)
						if !slices.EqualFunc(need, want, samePoints) {
							t.Fatalf("Need(%v, %d, %d, %v, %d) = %v", rc, levels, res, window, k, need)
						}
					}
				}
			}
		}
	}
}

// everything returns what a whole resolution needs: where a resolution has no points, that of it and of lower ones is zero.
func everything(rc api.Rect, levels, res int) []api.Rect {
	l := make([]api.Rect, 3*levels+1)
	for n := 1; n <= res; n++ {
		if !rect.Empty(reduced(rc, levels, n)) {
			b := dwt.Bands(reduced(rc, levels, n))
			copy(l[3*n-2:], b[1:])
		}
	}
	if !rect.Empty(reduced(rc, levels, min(1, res))) {
		l[0] = reduced(rc, levels, 0)
	}
	return l
}

// P6.5
func TestNeedOfWholeResolutionsAndOfNothing(t *testing.T) {
	for _, k := range kernels {
		for _, rc := range some {
			for levels := range api.MaxLevels + 1 {
				for res := range levels + 1 {
					resolution := reduced(rc, levels, res)
					none, whole := make([]api.Rect, 3*levels+1), everything(rc, levels, res)
					for _, window := range []api.Rect{resolution, r(math.MinInt, math.MinInt, math.MaxInt, math.MaxInt), r(-9, -9, api.MaxSide+9, api.MaxSide+9)} {
						if need := pyramid.Need(rc, levels, res, window, k); !slices.Equal(need, whole) {
							t.Errorf("Need(%v, %d, %d, %v, %d) = %v; expected %v", rc, levels, res, window, k, need, whole)
						}
					}
					s := resolution
					for _, window := range []api.Rect{{}, r(s.X1, s.Y0, s.X1+9, s.Y1), r(s.X0, s.Y1, s.X1, math.MaxInt), r(math.MinInt, s.Y0, s.X0, s.Y1), r(s.X1, s.Y1, s.X0, s.Y0), r(math.MaxInt, math.MaxInt, math.MinInt, math.MinInt)} {
						if need := pyramid.Need(rc, levels, res, window, k); !slices.Equal(need, none) {
							t.Errorf("Need(%v, %d, %d, %v, %d) = %v; expected zero rectangles", rc, levels, res, window, k, need)
						}
					}
				}
			}
		}
	}
}

// P6.5
func TestNeedOfRowsAndColumnsThatAreAllHigh(t *testing.T) {
	for _, c := range []struct {
		rc          api.Rect
		levels, res int
		want        []api.Rect
	}{
		{r(1, 0, 2, 5), 1, 1, []api.Rect{r(1, 0, 1, 3), r(0, 0, 1, 3), r(1, 0, 1, 2), r(0, 0, 1, 2)}},
		{r(1, 1, 2, 2), 1, 1, []api.Rect{r(1, 1, 1, 1), r(0, 1, 1, 1), r(1, 0, 1, 1), r(0, 0, 1, 1)}},
		{r(1, 0, 2, 5), 2, 2, []api.Rect{{}, {}, {}, {}, r(0, 0, 1, 3), r(1, 0, 1, 2), r(0, 0, 1, 2)}},
		{r(0, 2, 5, 4), 2, 2, []api.Rect{r(0, 1, 2, 1), r(0, 1, 1, 1), r(0, 0, 2, 1), r(0, 0, 1, 1), r(0, 1, 2, 2), r(0, 1, 3, 2), r(0, 1, 2, 2)}},
	} {
		for _, k := range kernels {
			if need := pyramid.Need(c.rc, c.levels, c.res, c.rc, k); !slices.Equal(need, c.want) {
				t.Errorf("Need(%v, %d, %d, %v, %d) = %v; expected %v", c.rc, c.levels, c.res, c.rc, k, need, c.want)
			}
		}
	}
}

// P6.5
func TestNeedOfInvalidArguments(t *testing.T) {
	expect := func(rc api.Rect, levels, res int, k api.Kernel) {
		t.Helper()
		for _, window := range []api.Rect{{}, r(4, 4, 6, 6), r(math.MinInt, math.MinInt, math.MaxInt, math.MaxInt)} {
			if need := pyramid.Need(rc, levels, res, window, k); len(need) != 0 {
				t.Errorf("Need(%v, %d, %d, %v, %d) = %v", rc, levels, res, window, k, need)
			}
		}
	}
	rc := r(3, 2, 12, 9)
	for _, k := range kernels {
		for _, bad := range notValid {
			expect(bad, 2, 1, k)
		}
		for _, none := range noLevels {
			expect(rc, none, 0, k)
			expect(rc, none, none, k)
		}
		for _, none := range []int{math.MinInt, -1, 3, math.MaxInt} {
			expect(rc, 2, none, k)
		}
	}
	for _, k := range strangers {
		expect(rc, 2, 0, k)
		expect(rc, 2, 1, k)
		expect(rc, 0, 0, k)
	}
}

// P6.9
func TestWindowsNeedNoOtherCoefficients(t *testing.T) {
	for _, k := range kernels {
		for i, rc := range []api.Rect{r(0, 0, 24, 24), r(1, 3, 30, 21), r(5, 1, 6, 24), r(2, 3, 25, 4), r(7, 7, 9, 40), r(31, 31, 33, 33)} {
			for levels := range 4 {
				bands := subbands(i, rc, levels, 200)
				for res := range levels + 1 {
					want := synthesized(bands, rc, levels, res, k)
					s := want.Rect
					for _, window := range []api.Rect{s, r(s.X0, s.Y0, s.X0+1, s.Y0+1), r(s.X1-1, s.Y1-1, s.X1, s.Y1), r(6, 5, 9, 7), r(3, 12, 20, 13), r(-4, 4, 8, 90), r(11, 9, 12, 10)} {
						others := subbands(i+99, rc, levels, 5000)
						for j, part := range pyramid.Need(rc, levels, res, window, k) {
							inside, e := plane.Crop(bands[j], part)
							needed(e)
							others[j], e = plane.Paste(others[j], inside)
							needed(e)
						}
						common := rect.Intersect(window, s)
						p, e := pyramid.Synthesize(others, rc, levels, res, k)
						got, _ := plane.Crop(p, common)
						expected, _ := plane.Crop(want, common)
						if e != api.OK || !plane.Same(got, expected) {
							t.Fatalf("%v, %d levels, resolution %d, kernel %d: the window %v is %v, %d; expected %v", rc, levels, res, k, window, got, e, expected)
						}
					}
				}
			}
		}
	}
}

// P6.6
func TestBound(t *testing.T) {
	for _, k := range kernels {
		low := func(n int) int { return lift.LowBound(n, k) }
		high := func(n int) int { return lift.HighBound(n, k) }
		for _, b := range []int{0, 1, 2, 3, 10, 255, api.MaxSample - 1, api.MaxSample} {
			for levels := range api.MaxLevels + 1 {
				want := []int{b}
				for range levels {
					n := want[0]
					want = append([]int{low(low(n)), low(high(n)), high(low(n)), high(high(n))}, want[1:]...)
				}
				for i := range want {
					if got := pyramid.Bound(b, levels, i, k); got != want[i] {
						t.Errorf("Bound(%d, %d, %d, %d) = %d; expected %d", b, levels, i, k, got, want[i])
					}
				}
			}
		}
	}
}

// P6.6
func TestBoundOfInvalidArguments(t *testing.T) {
	expect := func(b, levels, index int, k api.Kernel) {
		t.Helper()
		if n := pyramid.Bound(b, levels, index, k); n != 0 {
			t.Errorf("Bound(%d, %d, %d, %d) = %d", b, levels, index, k, n)
		}
	}
	for _, k := range kernels {
		for levels := range api.MaxLevels + 1 {
			for _, b := range []int{math.MinInt, -2, -1, api.MaxSample + 1, api.MaxSample + 2, math.MaxInt} {
				for i := range pyramid.Count(levels) {
					expect(b, levels, i, k)
				}
			}
			for _, i := range []int{math.MinInt, -1, 3*levels + 1, 3*levels + 2, math.MaxInt} {
				expect(100, levels, i, k)
			}
		}
		for _, levels := range noLevels {
			expect(100, levels, 0, k)
			expect(100, levels, 1, k)
		}
	}
	for _, k := range strangers {
		for levels := range api.MaxLevels + 1 {
			for i := range pyramid.Count(levels) {
				expect(100, levels, i, k)
			}
		}
	}
}

// P6.10
func TestSubbandsAreWithinTheBounds(t *testing.T) {
	for _, k := range kernels {
		for i, rc := range some {
			for _, b := range []int{0, 1, 2, 3, 100, api.MaxSample} {
				p := scattered(i, rc, 1)
				for j := range p.Data {
					p.Data[j] = b * (2*max(p.Data[j], 0) - 1)
				}
				for levels := range api.MaxLevels + 1 {
					bands, e := pyramid.Analyze(p, levels, k)
					for index, q := range bands {
						least, greatest, _ := plane.Limits(q)
						if bound := pyramid.Bound(b, levels, index, k); e != api.OK || least < -bound || greatest > bound {
							t.Errorf("Analyze of %v, greatest sample %d, %d levels, kernel %d: error %d, subband %d from %d to %d; the bound is %d", rc, b, levels, k, e, index, least, greatest, bound)
						}
					}
				}
			}
		}
	}
}

// overwrite stores a mark into a slice and the capacity behind it.
func overwrite(l []int) {
	for i := range l[:cap(l)] {
		l[:cap(l)][i] = -12345
	}
}

// R6
func TestArgumentsAndResultsAreKeptApart(t *testing.T) {
	rc := r(3, 2, 10, 7)
	for _, k := range kernels {
		for levels := range 4 {
			behind := scattered(1, r(0, 0, 40, 1), 50).Data
			before := slices.Clone(behind)
			p := api.Plane{Rect: rc, Data: behind[:35]}
			want := analyzed(pl(rc, slices.Clone(behind[:35])...), levels, k)
			bands, e := pyramid.Analyze(p, levels, k)
			for i := range bands {
				if e != api.OK || !plane.Same(bands[i], want[i]) {
					t.Errorf("Analyze, %d levels, kernel %d: subband %d = %v, %d; expected %v", levels, k, i, bands[i], e, want[i])
				}
				overwrite(bands[i].Data)
			}
			if !slices.Equal(behind, before) {
				t.Errorf("Analyze, %d levels, kernel %d, changed the plane", levels, k)
			}
			for res := range levels + 1 {
				low, e := pyramid.Synthesize(want, rc, levels, res, k)
				if again, _ := pyramid.Synthesize(want, rc, levels, res, k); e != api.OK || !plane.Same(low, again) {
					t.Errorf("Synthesize, %d levels, kernel %d, resolution %d: error %d", levels, k, res, e)
				}
				overwrite(low.Data)
				if fresh := analyzed(pl(rc, before[:35]...), levels, k); !same(want, fresh) {
					t.Fatalf("Synthesize, %d levels, kernel %d, resolution %d, changed a subband", levels, k, res)
				}
			}
		}
	}
}

// The examples of the chapter, and example 8 of the document.
func TestExamples(t *testing.T) {
	if n := pyramid.Count(2); n != 7 {
		t.Errorf("Count(2) = %d", n)
	}
	for _, c := range []struct {
		index, level int
		o            api.Orient
	}{{0, 2, api.LL}, {1, 2, api.HL}, {6, 1, api.HH}} {
		if level, o, ok := pyramid.Place(c.index, 2); level != c.level || o != c.o || !ok {
			t.Errorf("Place(%d, 2) = %d, %d, %v", c.index, level, o, ok)
		}
	}
	if l := pyramid.Indices(2, 2); !slices.Equal(l, []int{4, 5, 6}) {
		t.Errorf("Indices(2, 2) = %v", l)
	}
	rc := r(1, 0, 8, 5)
	for res, want := range []api.Rect{r(1, 0, 2, 2), r(1, 0, 4, 3), rc} {
		if got := pyramid.Resolution(rc, 2, res); got != want {
			t.Errorf("Resolution(%v, 2, %d) = %v; expected %v", rc, res, got, want)
		}
	}
	for i, want := range []api.Rect{r(1, 0, 2, 2), r(0, 0, 2, 2), r(1, 0, 2, 1), r(0, 0, 2, 1)} {
		if got := pyramid.Band(rc, 2, i); got != want {
			t.Errorf("Band(%v, 2, %d) = %v; expected %v", rc, i, got, want)
		}
	}
	tile := r(0, 0, 16, 16)
	if need := pyramid.Need(tile, 1, 1, r(4, 4, 6, 6), api.LeGall); !slices.Equal(need, slices.Repeat([]api.Rect{r(1, 1, 4, 4)}, 4)) {
		t.Errorf("Need of (4, 4) to (6, 6) = %v", need)
	}
	if a, b := pyramid.Bound(100, 1, 0, api.LeGall), pyramid.Bound(100, 1, 3, api.LeGall); a != 400 || b != 400 {
		t.Errorf("Bound(100, 1, .., LeGall) = %d and %d", a, b)
	}
	for res, side := range []int{4, 8, 16} {
		if got := pyramid.Resolution(tile, 2, res); got != r(0, 0, side, side) {
			t.Errorf("resolution %d of 16 by 16 = %v", res, got)
		}
	}
}
