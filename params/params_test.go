package params_test

import (
	"math"
	"math/bits"
	"math/rand/v2"
	"reflect"
	"slices"
	"testing"

	"wavelet/api"
	"wavelet/params"
	"wavelet/pyramid"
	"wavelet/quant"
	"wavelet/rect"
)

func r(x0, y0, x1, y1 int) api.Rect { return api.Rect{X0: x0, Y0: y0, X1: x1, Y1: y1} }

var whole = r(0, 0, api.MaxSide, api.MaxSide)

// extremes are beyond every range.
var extremes = []int{math.MinInt, math.MinInt + 1, -1 << 32, 1<<32 + 2, 1 << 62, math.MaxInt - 1, math.MaxInt}

// samples returns a component with distances of samples.
func samples(dx, dy int) api.Component { return api.Component{Depth: 8, DX: dx, DY: dy} }

// equal returns so many equal components.
func equal(n int) []api.Component { return slices.Repeat([]api.Component{samples(1, 1)}, n) }

// image returns the header of an area in tiles.
func image(area api.Rect, w, h int, components ...api.Component) api.Header {
	return api.Header{Area: area, TileW: w, TileH: h, Components: components}
}

// ones returns so many steps of 1.
func ones(n int) []int { return slices.Repeat([]int{1}, n) }

// coding returns parameters with so many levels, which are valid for small images.
func coding(levels int) api.Params {
	return api.Params{Kernel: api.LeGall, Levels: levels, BlockX: 6, BlockY: 6, Order: api.LRCP, Layers: 1, Steps: ones(3*levels + 1), Dead: 16}
}

// fine returns valid precinct exponents for so many levels.
func fine(levels int) []api.Point { return slices.Repeat([]api.Point{{X: 4, Y: 5}}, levels+1) }

func expectHeader(t *testing.T, h api.Header, want api.Errno) {
	t.Helper()
	if e := params.Header(h); e != want {
		t.Errorf("Header(%v) = %d; expected %d", h, e, want)
	}
}

func expectCheck(t *testing.T, h api.Header, p api.Params, want api.Errno) {
	t.Helper()
	if e := params.Check(h, p); e != want {
		t.Errorf("Check(%v, %+v) = %d; expected %d", h, p, e, want)
	}
}

// verdict returns OK for a number in a range, and an error for others.
func verdict(n, low, high int, e api.Errno) api.Errno {
	if low <= n && n <= high {
		return api.OK
	}
	return e
}

// around returns numbers in a range and outside of it.
func around(low, high int) []int {
	return append([]int{low - 1, low, low + 1, high - 1, high, high + 1, -low, -high, low - 5, high + 100}, extremes...)
}

// P23.1: areas
func TestAreas(t *testing.T) {
	for _, a := range []api.Rect{r(0, 0, 1, 1), r(0, 0, 1024, 1024), r(4095, 4095, 4096, 4096), r(0, 0, 4096, 256), r(3840, 0, 4096, 4096), r(3072, 3072, 4096, 4096), r(7, 3, 8, 9)} {
		expectHeader(t, image(a, api.MaxSide, api.MaxSide, samples(1, 1)), api.OK)
	}
	for _, a := range []api.Rect{
		{}, r(3, 3, 3, 3), r(0, 5, 9, 5), r(5, 0, 5, 9), r(4096, 4096, 4096, 4096), r(4096, 0, 4096, 4096), r(0, 4096, 4096, 4096),
		r(-1, 0, 4, 4), r(0, -1, 4, 4), r(0, 0, 4097, 4), r(0, 0, 4, 4097), r(5, 0, 4, 4), r(0, 5, 4, 4), r(4096, 0, 4097, 4), r(-4, -4, 0, 0),
		r(math.MinInt, 0, 4, 4), r(0, math.MinInt, 4, 4), r(0, 0, math.MaxInt, 4), r(0, 0, 4, math.MaxInt),
		r(math.MinInt, math.MinInt, math.MaxInt, math.MaxInt), r(math.MaxInt, math.MaxInt, math.MinInt, math.MinInt), r(math.MaxInt-1, 0, math.MaxInt, 1),
	} {
		for _, d := range []int{1, 2, 4} {
			expectHeader(t, image(a, api.MaxSide, api.MaxSide, samples(d, d)), api.ErrHeader)
		}
	}
}

// P23.1: sizes of tiles
func TestSizesOfTiles(t *testing.T) {
	for _, n := range append(around(1, api.MaxSide), 0, 2, 77, 1000) {
		want := verdict(n, 1, api.MaxSide, api.ErrHeader)
		expectHeader(t, image(r(0, 0, 32, 32), n, 5, samples(1, 1)), want)
		expectHeader(t, image(r(0, 0, 32, 32), 5, n, samples(1, 1)), want)
		expectHeader(t, image(r(4064, 4064, 4096, 4096), n, n, samples(1, 1)), want)
	}
}

// P23.1: the number of components
func TestNumbersOfComponents(t *testing.T) {
	for n := range 70 {
		expectHeader(t, image(r(0, 0, 3, 3), 8, 8, equal(n)...), verdict(n, 1, api.MaxComponents, api.ErrHeader))
	}
	expectHeader(t, api.Header{Area: r(0, 0, 3, 3), TileW: 8, TileH: 8, Components: []api.Component{}}, api.ErrHeader)
}

// P23.1: the numbers of each component
func TestNumbersOfAComponent(t *testing.T) {
	for count := 1; count <= api.MaxComponents; count++ {
		for i := range count {
			h := image(r(0, 0, 9, 9), 8, 8, equal(count)...)
			c := &h.Components[i]
			for _, field := range []struct {
				at   *int
				high int
			}{{&c.Depth, api.MaxDepth}, {&c.DX, api.MaxSub}, {&c.DY, api.MaxSub}} {
				before := *field.at
				for _, n := range append(around(1, field.high), 0, 2, 3) {
					*field.at = n
					expectHeader(t, h, verdict(n, 1, field.high, api.ErrHeader))
				}
				*field.at = before
			}
		}
	}
}

// sampled is an area, the distances of the samples of a component, and the error of a header with them.
type sampled struct {
	a      api.Rect
	dx, dy int
	want   api.Errno
}

// expectSampled checks headers with such a component alone, and at each place among others.
func expectSampled(t *testing.T, cases []sampled, other api.Component) {
	t.Helper()
	for _, c := range cases {
		expectHeader(t, image(c.a, api.MaxSide, 2048, samples(c.dx, c.dy)), c.want)
		for i := range api.MaxComponents {
			l := slices.Repeat([]api.Component{other}, api.MaxComponents)
			l[i] = samples(c.dx, c.dy)
			expectHeader(t, image(c.a, 2048, api.MaxSide, l...), c.want)
		}
	}
}

// P23.1: components without samples
func TestComponentsWithoutSamples(t *testing.T) {
	expectSampled(t, []sampled{
		{r(1, 0, 2, 1), 2, 1, api.ErrHeader}, {r(0, 1, 1, 2), 1, 2, api.ErrHeader}, {r(1, 0, 2, 1), 1, 2, api.OK}, {r(0, 1, 1, 2), 2, 1, api.OK},
		{r(1, 0, 3, 1), 2, 1, api.OK}, {r(1, 1, 4, 9), 4, 1, api.ErrHeader}, {r(1, 1, 5, 9), 4, 1, api.OK}, {r(4, 4, 5, 5), 4, 4, api.OK},
		{r(4093, 0, 4096, 4096), 4, 1, api.ErrHeader}, {r(4092, 0, 4096, 4096), 4, 1, api.OK}, {r(0, 4093, 4096, 4095), 4, 3, api.ErrHeader}, {r(0, 4094, 4096, 4096), 4, 2, api.OK},
	}, samples(1, 1))
}

// P23.1: the number of samples of a component
func TestNumbersOfSamples(t *testing.T) {
	expectSampled(t, []sampled{
		{r(0, 0, 1024, 1024), 1, 1, api.OK}, {r(3072, 3072, 4096, 4096), 1, 1, api.OK}, {r(0, 0, 4096, 256), 1, 1, api.OK}, {r(0, 0, 1025, 1023), 1, 1, api.OK},
		{r(0, 0, 1025, 1024), 1, 1, api.ErrLimit}, {r(0, 0, 1024, 1025), 1, 1, api.ErrLimit}, {r(0, 0, 1361, 771), 1, 1, api.ErrLimit}, {r(0, 0, 4096, 257), 1, 1, api.ErrLimit},
		{whole, 4, 4, api.OK}, {whole, 4, 3, api.ErrLimit}, {whole, 3, 4, api.ErrLimit}, {whole, 1, 1, api.ErrLimit},
		{r(0, 0, 2049, 2048), 2, 2, api.ErrLimit}, {r(1, 0, 2049, 2048), 2, 2, api.OK}, {r(1, 1, 2050, 2049), 2, 2, api.OK}, {r(0, 0, 2048, 2048), 2, 2, api.OK},
	}, samples(4, 4))
}

// P23.1: the number of tiles
func TestNumbersOfTiles(t *testing.T) {
	for _, c := range []struct {
		a    api.Rect
		w, h int
		want api.Errno
	}{
		{r(0, 0, 32, 32), 1, 1, api.OK}, {r(0, 0, 33, 32), 1, 1, api.ErrLimit}, {r(0, 0, 32, 33), 1, 1, api.ErrLimit},
		{r(0, 0, 1024, 1), 1, 1, api.OK}, {r(0, 0, 1025, 1), 1, 1, api.ErrLimit}, {r(0, 0, 1, 1024), 1, 1, api.OK}, {r(0, 0, 1, 1025), 1, 1, api.ErrLimit},
		{r(3072, 4095, 4096, 4096), 1, 1, api.OK}, {r(3071, 4095, 4096, 4096), 1, 1, api.ErrLimit},
		{r(0, 0, 41, 25), 1, 1, api.ErrLimit}, // 1025
		{r(0, 0, 96, 96), 3, 3, api.OK}, {r(1, 0, 96, 96), 3, 3, api.OK}, {r(1, 0, 97, 96), 3, 3, api.ErrLimit}, {r(2, 2, 98, 95), 3, 3, api.ErrLimit}, {r(2, 2, 96, 96), 3, 3, api.OK},
		{r(0, 0, 256, 256), 1, 1, api.ErrLimit}, {r(0, 0, 257, 256), 1, 1, api.ErrLimit}, {r(0, 0, 1024, 1024), 1, 1, api.ErrLimit}, {r(0, 0, 1024, 1024), 32, 32, api.OK}, {r(1, 1, 1025, 1025), 32, 32, api.ErrLimit},
		{r(0, 0, 1, 4096), 4096, 4, api.OK}, {r(0, 0, 1, 4096), 4096, 3, api.ErrLimit},
	} {
		expectHeader(t, image(c.a, c.w, c.h, samples(1, 1)), c.want)
	}
	expectHeader(t, image(whole, 1, 1, samples(4, 4)), api.ErrLimit)
	expectHeader(t, image(whole, 128, 128, samples(4, 4)), api.OK)
	expectHeader(t, image(whole, 127, 128, samples(4, 4)), api.ErrLimit)
}

// headerFaults make a header wrong in one way each.
var headerFaults = []func(h *api.Header){
	func(h *api.Header) { h.Area.X0 = -1 },
	func(h *api.Header) { h.Area.Y1 = h.Area.Y0 },
	func(h *api.Header) { h.TileW = 0 },
	func(h *api.Header) { h.TileH = api.MaxSide + 1 },
	func(h *api.Header) { h.Components = nil },
	func(h *api.Header) { h.Components = equal(api.MaxComponents + 1) },
	func(h *api.Header) { h.Components[0].Depth = 0 },
	func(h *api.Header) { h.Components[1].Depth = 17 },
	func(h *api.Header) { h.Components[1].DX = 5 },
	func(h *api.Header) { h.Components[1].DY = 0 },
	func(h *api.Header) { h.Area, h.Components[1].DX = r(1, 0, 2, 1), 2 },
}

// limitFaults make a header too large in one way each.
var limitFaults = []func(h *api.Header){
	func(h *api.Header) { h.TileW, h.TileH = 1, 1 },
	func(h *api.Header) { h.Area = whole },
	func(h *api.Header) { h.Area, h.TileH = r(0, 0, 1025, 1025), 1 },
}

// P23.1: the order of the errors, whichever component causes them
func TestOrderOfErrorsOfHeaders(t *testing.T) {
	fresh := func() api.Header { return image(r(0, 0, 300, 300), 512, 512, equal(3)...) }
	expectHeader(t, fresh(), api.OK)
	for _, wrong := range headerFaults {
		for _, large := range limitFaults {
			h := fresh()
			large(&h)
			expectHeader(t, h, api.ErrLimit)
			wrong(&h)
			expectHeader(t, h, api.ErrHeader)
		}
	}
	h := image(whole, 4096, 4096, samples(1, 1), samples(1, 5))
	expectHeader(t, h, api.ErrHeader)
}

// cellsMet counts the cells of a size in which the numbers of an interval lie.
func cellsMet(from, to, size int) int {
	met := map[int]bool{}
	for x := from; x < to; x++ {
		met[x/size] = true
	}
	return len(met)
}

// multiples counts the multiples of a number in an interval.
func multiples(from, to, of int) int {
	n := 0
	for x := from; x < to; x++ {
		if x%of == 0 {
			n++
		}
	}
	return n
}

// modelHeader is the definition of a valid header whose numbers are in range.
func modelHeader(h api.Header) api.Errno {
	a := h.Area
	large := cellsMet(a.X0, a.X1, h.TileW)*cellsMet(a.Y0, a.Y1, h.TileH) > api.MaxTiles
	for _, c := range h.Components {
		n := multiples(a.X0, a.X1, c.DX) * multiples(a.Y0, a.Y1, c.DY)
		if n == 0 {
			return api.ErrHeader
		}
		large = large || n > api.MaxArea
	}
	if large {
		return api.ErrLimit
	}
	return api.OK
}

// size returns a number from 1 to the given one; small ones are more frequent.
func size(source *rand.Rand, most int) int {
	return 1 + source.IntN(1+source.IntN(most))
}

// drawnArea returns a rectangle with points, some of them at the far end of the grid.
func drawnArea(source *rand.Rand, most int) api.Rect {
	w, h := size(source, most), size(source, most)
	x, y := source.IntN(api.MaxSide+1-w), source.IntN(api.MaxSide+1-h)
	switch source.IntN(4) {
	case 0:
		x, y = 0, 0
	case 1:
		x, y = api.MaxSide-w, api.MaxSide-h
	}
	return r(x, y, x+w, y+h)
}

// drawnHeader returns a header whose numbers are in range.
func drawnHeader(source *rand.Rand, most int) api.Header {
	h := image(drawnArea(source, most), size(source, most), size(source, most))
	for range 1 + source.IntN(api.MaxComponents) {
		h.Components = append(h.Components, api.Component{Depth: 1 + source.IntN(api.MaxDepth), Signed: source.IntN(2) == 0, DX: 1 + source.IntN(api.MaxSub), DY: 1 + source.IntN(api.MaxSub)})
	}
	return h
}

// P23.1
func TestDrawnHeaders(t *testing.T) {
	source := rand.New(rand.NewPCG(23, 1))
	seen := map[api.Errno]int{}
	for i := range 6000 {
		h := drawnHeader(source, []int{8, 100, 1500, api.MaxSide}[i%4])
		if i%3 == 0 {
			h.TileW, h.TileH = 1+h.TileW/8, 1+h.TileH/8
		}
		want := modelHeader(h)
		expectHeader(t, h, want)
		seen[want]++
	}
	for _, e := range []api.Errno{api.OK, api.ErrHeader, api.ErrLimit} {
		if seen[e] < 200 {
			t.Errorf("the error %d occurs %d times", e, seen[e])
		}
	}
}

// P23.2: Check returns the errors of Header
func TestCheckOfHeaders(t *testing.T) {
	for _, fault := range headerFaults {
		h := image(r(0, 0, 300, 300), 512, 512, equal(3)...)
		fault(&h)
		expectCheck(t, h, coding(2), api.ErrHeader)
		expectCheck(t, h, api.Params{}, api.ErrHeader)
	}
	for _, fault := range limitFaults {
		h := image(r(0, 0, 300, 300), 512, 512, equal(3)...)
		fault(&h)
		expectCheck(t, h, coding(2), api.ErrLimit)
		expectCheck(t, h, api.Params{}, api.ErrLimit)
	}
}

// P23.2: the constants of package api
func TestKinds(t *testing.T) {
	h := image(r(0, 0, 20, 20), 8, 8, equal(3)...)
	for _, n := range append([]int{-3, -2, -1, 0, 1, 2, 3, 4, 5, 6, 7, 9}, extremes...) {
		p := coding(1)
		p.Kernel = api.Kernel(n)
		expectCheck(t, h, p, verdict(n, 1, 3, api.ErrKind))
		p = coding(1)
		p.Color = api.Transform(n)
		expectCheck(t, h, p, verdict(n, 0, 2, api.ErrKind))
		p = coding(1)
		p.Order = api.Order(n)
		expectCheck(t, h, p, verdict(n, 1, 5, api.ErrKind))
	}
}

// field is a number of parameters and its range.
type field struct {
	at        *int
	low, high int
}

// fields returns the numbers of parameters, except Levels.
func fields(p *api.Params) []field {
	l := []field{
		{&p.BlockX, api.MinBlockExp, api.MaxBlockExp}, {&p.BlockY, api.MinBlockExp, api.MaxBlockExp}, {&p.Layers, 1, api.MaxLayers},
		{&p.Dead, api.MinDead, api.MaxDead}, {&p.Shift, 0, api.MaxShift},
	}
	for i := range p.Steps {
		l = append(l, field{&p.Steps[i], 1, api.MaxStep})
	}
	for i := range p.Precincts {
		l = append(l, field{&p.Precincts[i].X, min(i, 1), api.MaxPrecinctExp}, field{&p.Precincts[i].Y, min(i, 1), api.MaxPrecinctExp})
	}
	return l
}

// P23.2: each number below its range, in it, and beyond it
func TestNumbersOfParameters(t *testing.T) {
	h := image(r(3, 5, 20, 20), 16, 16, equal(3)...)
	for levels := range api.MaxLevels + 1 {
		p := coding(levels)
		p.Precincts = fine(levels)
		for _, f := range fields(&p) {
			before := *f.at
			for _, n := range append(around(f.low, f.high), 0, 1, 2, 12, 13, 30) {
				*f.at = n
				expectCheck(t, h, p, verdict(n, f.low, f.high, api.ErrParams))
			}
			*f.at = before
		}
		expectCheck(t, h, p, api.OK)
	}
}

// P23.2: Levels
func TestLevels(t *testing.T) {
	h := image(r(0, 0, 20, 20), 8, 8, samples(1, 1))
	for _, levels := range append([]int{-4, -3, -2, -1, 0, 1, 2, 3, 4, 5, 6, 7, 8}, extremes...) {
		for steps := range 30 {
			p := coding(0)
			p.Levels, p.Steps = levels, ones(steps)
			want := verdict(levels, 0, api.MaxLevels, api.ErrParams)
			if steps != 3*levels+1 {
				want = api.ErrParams
			}
			expectCheck(t, h, p, want)
		}
	}
	// Here 3*Levels + 1 overflows to the number of steps.
	for steps, levels := range map[int]int{2: -0x5555555555555555, 3: 0x5555555555555556} {
		p := coding(0)
		p.Levels, p.Steps = levels, ones(steps)
		expectCheck(t, h, p, api.ErrParams)
	}
}

// P23.2: lengths of Steps and of Precincts
func TestLengths(t *testing.T) {
	h := image(r(0, 0, 20, 20), 8, 8, samples(1, 1))
	for levels := range api.MaxLevels + 1 {
		for n := range 40 {
			p := coding(levels)
			p.Steps = ones(n)
			expectCheck(t, h, p, verdict(n, 3*levels+1, 3*levels+1, api.ErrParams))
			p = coding(levels)
			p.Precincts = slices.Repeat([]api.Point{{X: 5, Y: 5}}, n)
			want := verdict(n, levels+1, levels+1, api.ErrParams)
			if n == 0 {
				want = api.OK
			}
			expectCheck(t, h, p, want)
		}
		p := coding(levels)
		p.Precincts = []api.Point{}
		expectCheck(t, h, p, api.OK)
		p.Steps = nil
		expectCheck(t, h, p, api.ErrParams)
	}
}

// P23.2: precinct exponents that are 0, for the first resolution and for others
func TestZeroExponents(t *testing.T) {
	h := image(r(0, 0, 20, 20), 8, 8, samples(1, 1))
	for levels := range api.MaxLevels + 1 {
		for i := range levels + 1 {
			for _, e := range []api.Point{{X: 0, Y: 3}, {X: 3, Y: 0}, {X: 0, Y: 0}} {
				p := coding(levels)
				p.Precincts = fine(levels)
				p.Precincts[i] = e
				expectCheck(t, h, p, verdict(i, 0, 0, api.ErrParams))
			}
		}
	}
}

// P23.2: color transforms
func TestColorTransforms(t *testing.T) {
	for n := 1; n <= api.MaxComponents; n++ {
		for color := api.NoColor; color <= api.YCoCg; color++ {
			p := coding(1)
			p.Color = color
			h := image(r(0, 0, 20, 20), 8, 8, equal(n)...)
			want := api.OK
			if color != api.NoColor && n < 3 {
				want = api.ErrParams
			}
			expectCheck(t, h, p, want)
			for i := range n {
				for _, other := range []api.Component{{Depth: 9, DX: 1, DY: 1}, {Depth: 8, Signed: true, DX: 1, DY: 1}, {Depth: 8, DX: 2, DY: 1}, {Depth: 8, DX: 1, DY: 2}} {
					h.Components = equal(n)
					h.Components[i] = other
					want := api.OK
					if color != api.NoColor && (n < 3 || i < 3) {
						want = api.ErrParams
					}
					expectCheck(t, h, p, want)
				}
			}
		}
	}
}

// number returns how many cells of the sizes 2^X and 2^Y a rectangle touches.
func number(a api.Rect, e api.Point) int {
	if a.X0 >= a.X1 || a.Y0 >= a.Y1 {
		return 0
	}
	w, h := 1<<e.X, 1<<e.Y
	return ((a.X1-1)/w - a.X0/w + 1) * ((a.Y1-1)/h - a.Y0/h + 1)
}

// tiles returns the tiles of an image.
func tiles(h api.Header) []api.Rect {
	var l []api.Rect
	for y := h.Area.Y0 / h.TileH * h.TileH; y < h.Area.Y1; y += h.TileH {
		for x := h.Area.X0 / h.TileW * h.TileW; x < h.Area.X1; x += h.TileW {
			l = append(l, rect.Intersect(h.Area, r(x, y, x+h.TileW, y+h.TileH)))
		}
	}
	return l
}

// exponents returns those of a resolution.
func exponents(p api.Params, res int) api.Point {
	if len(p.Precincts) == 0 {
		return api.Point{X: 12, Y: 12}
	}
	return p.Precincts[res]
}

// most returns the greatest number of packets of a tile, and of code blocks of a subband in a tile.
func most(h api.Header, p api.Params) (packets, blocks int) {
	for _, tile := range tiles(h) {
		n := 0
		for _, c := range h.Components {
			of := rect.Reduce(tile, c.DX, c.DY)
			for res := range p.Levels + 1 {
				e := exponents(p, res)
				n += number(pyramid.Resolution(of, p.Levels, res), e)
				if res > 0 {
					e = api.Point{X: e.X - 1, Y: e.Y - 1}
				}
				e = api.Point{X: min(e.X, p.BlockX), Y: min(e.Y, p.BlockY)}
				for _, band := range pyramid.Indices(p.Levels, res) {
					blocks = max(blocks, number(pyramid.Band(of, p.Levels, band), e))
				}
			}
		}
		packets = max(packets, n*p.Layers)
	}
	return packets, blocks
}

// crowd is an image with many packets of a tile or code blocks of a subband in a tile.
type crowd struct {
	h               api.Header
	p               api.Params
	packets, blocks int
}

// crowded returns an image of one component without exponents of precincts, but with those of code blocks.
func crowded(area api.Rect, tile, levels, bx, by int) crowd {
	p := coding(levels)
	p.BlockX, p.BlockY = bx, by
	return crowd{h: image(area, tile, tile, samples(1, 1)), p: p}
}

// with returns the image with so many layers, exponents of precincts, and numbers of packets and code blocks.
func (c crowd) with(layers int, precincts []api.Point, packets, blocks int) crowd {
	c.p.Layers, c.p.Precincts, c.packets, c.blocks = layers, precincts, packets, blocks
	return c
}

// crowds returns images with just MaxPackets packets or code blocks, and with a few more.
func crowds() []crowd {
	points := []api.Point{{}}
	halves := []api.Point{{X: 12, Y: 12}, {X: 1, Y: 1}}
	columns := []api.Point{{X: 12, Y: 12}, {X: 1, Y: 12}}
	lines := []api.Point{{X: 12, Y: 12}, {X: 12, Y: 1}}
	several := crowded(r(0, 0, 128, 128), 128, 0, 2, 2).with(1, points, 65536, 16384)
	several.h.Components = equal(4)
	one := crowded(r(1, 1, 256, 258), 4096, 0, 2, 2).with(1, points, 0, 255*257)
	one.h.Components = []api.Component{samples(1, 1), {Depth: 1, DX: 4, DY: 4}}
	one.packets = 255*257 + 63*64
	return []crowd{
		crowded(r(0, 0, 256, 256), 256, 0, 6, 6).with(1, points, 65536, 65536),
		crowded(r(0, 0, 331, 198), 331, 0, 6, 6).with(1, points, 65538, 65538),
		crowded(r(7, 9, 71, 73), 4096, 0, 6, 6).with(16, points, 65536, 4096),
		crowded(r(7, 9, 248, 26), 4096, 0, 6, 6).with(16, points, 65552, 4097),
		crowded(r(0, 0, 510, 514), 4096, 1, 6, 6).with(1, halves, 65536, 65535),
		crowded(r(0, 0, 512, 512), 4096, 1, 6, 6).with(1, halves, 65537, 65536),
		several, several.doubled(), one,
		// The code blocks of these have 4 by 4 points.
		crowded(r(0, 0, 1024, 1024), 4096, 0, 2, 2).with(16, nil, 16, 65536),
		crowded(r(3, 0, 1024, 1024), 4096, 0, 2, 2).with(1, nil, 1, 65536),
		crowded(r(1, 1, 1025, 1025), 4096, 0, 2, 2).with(1, nil, 1, 66049),
		crowded(r(0, 0, 1321, 789), 4096, 0, 2, 2).with(1, nil, 1, 65538),
		// Those of these have a single column or a single row.
		crowded(r(0, 0, 1024, 1024), 4096, 1, 2, 2).with(1, columns, 513, 65536),
		crowded(r(0, 0, 1024, 1024), 4096, 1, 2, 2).with(1, lines, 513, 65536),
		// In these only HL, only LH, or only HH has too many.
		crowded(r(0, 0, 1324, 785), 4096, 1, 2, 2).with(1, columns, 663, 65538),
		crowded(r(0, 0, 1323, 786), 4096, 1, 2, 2).with(1, columns, 663, 65538),
		crowded(r(0, 0, 786, 1323), 4096, 1, 2, 2).with(1, lines, 663, 65538),
		crowded(r(0, 0, 785, 1324), 4096, 1, 2, 2).with(1, lines, 663, 65538),
		crowded(r(1, 7, 1324, 786), 4096, 1, 2, 2).with(1, columns, 663, 65538),
		crowded(r(0, 0, 1322, 785), 4096, 1, 2, 2).with(1, columns, 662, 661*99),
		// In these only LL of a lower resolution has too many.
		crowded(r(0, 0, 1024, 1024), 4096, 1, 6, 2).with(1, []api.Point{{X: 0, Y: 12}, {X: 12, Y: 12}}, 513, 65536),
		crowded(r(0, 0, 1025, 1023), 4096, 1, 6, 2).with(1, []api.Point{{X: 0, Y: 12}, {X: 12, Y: 12}}, 514, 513*128),
		crowded(r(0, 0, 1023, 1025), 4096, 1, 2, 6).with(1, []api.Point{{X: 12, Y: 0}, {X: 12, Y: 12}}, 514, 513*128),
		// The sides of their code blocks differ.
		crowded(r(0, 0, 1024, 256), 4096, 0, 2, 6).with(1, []api.Point{{X: 12, Y: 0}}, 256, 65536),
		crowded(r(0, 0, 1024, 257), 4096, 0, 2, 6).with(1, []api.Point{{X: 12, Y: 0}}, 257, 65792),
		crowded(r(0, 0, 1024, 257), 4096, 0, 6, 2).with(1, []api.Point{{X: 12, Y: 0}}, 257, 16*257),
		crowded(r(0, 0, 257, 1024), 4096, 0, 6, 2).with(1, []api.Point{{X: 0, Y: 12}}, 257, 65792),
		crowded(r(0, 0, 257, 1024), 4096, 0, 2, 6).with(1, []api.Point{{X: 0, Y: 12}}, 257, 16*257),
	}
}

// doubled returns the image with twice as many layers.
func (c crowd) doubled() crowd {
	c.p.Layers, c.packets = 2*c.p.Layers, 2*c.packets
	return c
}

// P23.2: just MaxPackets packets or code blocks, and more
func TestCrowds(t *testing.T) {
	for _, c := range crowds() {
		if packets, blocks := most(c.h, c.p); packets != c.packets || blocks != c.blocks {
			t.Errorf("%v with %+v has %d packets and %d code blocks; expected %d and %d", c.h, c.p, packets, blocks, c.packets, c.blocks)
		}
		expectCheck(t, c.h, c.p, verdict(max(c.packets, c.blocks), 0, api.MaxPackets, api.ErrLimit))
	}
}

// P23.2: only one of the tiles has too many packets
func TestCrowdedTile(t *testing.T) {
	for _, c := range []struct {
		a    api.Rect
		w, h int
		want api.Errno
	}{
		{r(1000, 0, 1600, 128), 512, 128, api.OK}, {r(1000, 0, 1600, 129), 512, 129, api.ErrLimit}, // the second column
		{r(0, 1000, 128, 1600), 128, 512, api.OK}, {r(0, 1000, 129, 1600), 129, 512, api.ErrLimit}, // the second row
		{r(0, 0, 600, 140), 512, 129, api.ErrLimit}, {r(400, 100, 1024, 258), 512, 129, api.ErrLimit}, {r(400, 100, 1024, 256), 512, 128, api.OK}, // the first tile, the last one
	} {
		p := coding(0)
		p.Precincts = []api.Point{{}}
		expectCheck(t, image(c.a, c.w, c.h, samples(1, 1)), p, c.want)
		expectCheck(t, image(c.a, c.w, c.h, samples(4, 4), samples(4, 4), samples(1, 1)), p, api.ErrLimit)
	}
}

// P23.2: a component without samples in a tile has no packets there
func TestCrowdedTileWithoutSamples(t *testing.T) {
	p, q := coding(0), coding(0)
	p.Precincts, p.Layers = []api.Point{{X: 1, Y: 0}}, api.MaxLayers
	q.Precincts, q.Layers = []api.Point{{X: 0, Y: 1}}, api.MaxLayers
	// Each of the two tiles has samples of one of the components.
	expectCheck(t, image(r(3, 0, 5, 4096), 1, 4096, samples(3, 1), samples(4, 1)), p, api.OK)
	expectCheck(t, image(r(0, 3, 4096, 5), 4096, 1, samples(1, 3), samples(1, 4)), q, api.OK)
	expectCheck(t, image(r(3, 0, 5, 4096), 4096, 4096, samples(3, 1), samples(4, 1)), p, api.ErrLimit)
	expectCheck(t, image(r(0, 3, 4096, 5), 4096, 4096, samples(1, 3), samples(1, 4)), q, api.ErrLimit)
	// The first of the two tiles has no samples of the first component, and too many packets of the other one.
	p.Precincts, q.Precincts = []api.Point{{}}, []api.Point{{}}
	expectCheck(t, image(r(9, 0, 13, 1366), 3, 4096, samples(4, 1), samples(1, 1)), p, api.ErrLimit)
	expectCheck(t, image(r(9, 0, 13, 1365), 3, 4096, samples(4, 1), samples(1, 1)), p, api.OK)
	expectCheck(t, image(r(0, 9, 1366, 13), 4096, 3, samples(1, 4), samples(1, 1)), q, api.ErrLimit)
	expectCheck(t, image(r(0, 9, 1365, 13), 4096, 3, samples(1, 4), samples(1, 1)), q, api.OK)
}

// drawnParams returns parameters whose numbers are in range; exponents of precincts are often small.
func drawnParams(source *rand.Rand) api.Params {
	p := coding(source.IntN(api.MaxLevels + 1))
	p.Kernel, p.Order = api.Kernel(1+source.IntN(3)), api.Order(1+source.IntN(5))
	p.BlockX, p.BlockY = 2+source.IntN(5), 2+source.IntN(5)
	p.Layers, p.Dead, p.Shift = 1+source.IntN(api.MaxLayers), 8+source.IntN(25), source.IntN(31)
	for i := range p.Steps {
		p.Steps[i] = size(source, api.MaxStep)
	}
	if source.IntN(3) > 0 {
		high := 1 + source.IntN(api.MaxPrecinctExp)
		for res := range p.Levels + 1 {
			p.Precincts = append(p.Precincts, api.Point{X: min(res, 1) + source.IntN(high), Y: min(res, 1) + source.IntN(high)})
		}
	}
	return p
}

// P23.2: the numbers of packets and code blocks
func TestDrawnParameters(t *testing.T) {
	source := rand.New(rand.NewPCG(23, 2))
	seen := map[api.Errno]int{}
	for i := range 12000 {
		h, p := drawnHeader(source, []int{50, 1000, 2000, 4000}[i%4]), drawnParams(source)
		if source.IntN(2) == 0 {
			h.TileW, h.TileH = min(api.MaxSide, 3*h.TileW), min(api.MaxSide, 3*h.TileH)
		}
		if modelHeader(h) != api.OK {
			continue
		}
		packets, blocks := most(h, p)
		want := verdict(max(packets, blocks), 0, api.MaxPackets, api.ErrLimit)
		expectCheck(t, h, p, want)
		seen[want]++
	}
	if seen[api.OK] < 1000 || seen[api.ErrLimit] < 500 {
		t.Errorf("the errors occur so many times: %v", seen)
	}
}

// P23.2: images with about as many packets of a tile as are permitted
func TestNearTheLimit(t *testing.T) {
	source := rand.New(rand.NewPCG(23, 3))
	seen := map[api.Errno]int{}
	for range 6000 {
		p := drawnParams(source)
		h := drawnHeader(source, 2000)
		h.TileW, h.TileH = 100+source.IntN(900), 100+source.IntN(900)
		if modelHeader(h) != api.OK {
			continue
		}
		p.Layers = 1
		packets, blocks := most(h, p)
		if blocks > api.MaxPackets || packets > api.MaxPackets || packets < api.MaxPackets/api.MaxLayers {
			continue
		}
		p.Layers = api.MaxPackets / packets
		expectCheck(t, h, p, api.OK)
		if p.Layers < api.MaxLayers {
			p.Layers++
			expectCheck(t, h, p, api.ErrLimit)
			seen[api.ErrLimit]++
		}
		seen[api.OK]++
	}
	if seen[api.OK] < 100 || seen[api.ErrLimit] < 100 {
		t.Errorf("the errors occur so many times: %v", seen)
	}
}

// fault makes a header or parameters wrong, with an error.
type fault struct {
	e    api.Errno
	make func(h *api.Header, p *api.Params)
}

// faults returns some faults for each of the errors of Check, in their order.
func faults() [][]fault {
	var inHeader, inSize []fault
	for _, f := range headerFaults {
		inHeader = append(inHeader, fault{api.ErrHeader, func(h *api.Header, _ *api.Params) { f(h) }})
	}
	for _, f := range limitFaults {
		inSize = append(inSize, fault{api.ErrLimit, func(h *api.Header, _ *api.Params) { f(h) }})
	}
	inKind := []fault{
		{api.ErrKind, func(_ *api.Header, p *api.Params) { p.Kernel = 0 }},
		{api.ErrKind, func(_ *api.Header, p *api.Params) { p.Color = 3 }},
		{api.ErrKind, func(_ *api.Header, p *api.Params) { p.Order = 6 }},
	}
	inParams := []fault{
		{api.ErrParams, func(_ *api.Header, p *api.Params) { p.Levels = 6 }},
		{api.ErrParams, func(_ *api.Header, p *api.Params) { p.Levels = -1 }},
		{api.ErrParams, func(_ *api.Header, p *api.Params) { p.BlockX = 7 }},
		{api.ErrParams, func(_ *api.Header, p *api.Params) { p.BlockY = 1 }},
		{api.ErrParams, func(_ *api.Header, p *api.Params) { p.Precincts = fine(7) }},
		{api.ErrParams, func(_ *api.Header, p *api.Params) { p.Precincts = []api.Point{{}, {}} }},
		{api.ErrParams, func(_ *api.Header, p *api.Params) { p.Precincts = []api.Point{{}, {X: 5, Y: 13}} }},
		{api.ErrParams, func(_ *api.Header, p *api.Params) { p.Layers = 17 }},
		{api.ErrParams, func(_ *api.Header, p *api.Params) { p.Steps = ones(9) }},
		{api.ErrParams, func(_ *api.Header, p *api.Params) { p.Steps[0] = 0 }},
		{api.ErrParams, func(_ *api.Header, p *api.Params) { p.Dead = 33 }},
		{api.ErrParams, func(_ *api.Header, p *api.Params) { p.Shift = 31 }},
		{api.ErrParams, func(h *api.Header, p *api.Params) { p.Color, h.Components = api.RCT, h.Components[:2] }},
		{api.ErrParams, func(h *api.Header, p *api.Params) { p.Color, h.Components[1].Signed = api.YCoCg, true }},
	}
	crowding := []fault{
		{api.ErrLimit, func(_ *api.Header, p *api.Params) { p.Precincts = []api.Point{{X: 12, Y: 12}, {X: 1, Y: 1}} }},
		{api.ErrLimit, func(h *api.Header, p *api.Params) {
			h.Area, p.BlockX, p.BlockY, p.Levels, p.Steps, p.Precincts = r(1, 1, 1025, 1025), 2, 2, 0, p.Steps[:1], nil
		}},
	}
	return [][]fault{inHeader, inSize, inKind, inParams, crowding}
}

// P23.2: the order of the errors
func TestOrderOfErrors(t *testing.T) {
	source := rand.New(rand.NewPCG(23, 4))
	groups := faults()
	for subset := range 1 << len(groups) {
		for range 60 {
			h, p := image(r(0, 0, 600, 600), 2048, 2048, equal(3)...), coding(1)
			want := api.OK
			// The faults of a later group are made first, since some of them would undo earlier ones.
			for g := len(groups) - 1; g >= 0; g-- {
				if subset>>g&1 == 1 {
					f := groups[g][source.IntN(len(groups[g]))]
					f.make(&h, &p)
					want = f.e
				}
			}
			expectCheck(t, h, p, want)
		}
	}
	for _, group := range groups {
		for _, f := range group {
			h, p := image(r(0, 0, 600, 600), 2048, 2048, equal(3)...), coding(1)
			f.make(&h, &p)
			expectCheck(t, h, p, f.e)
		}
	}
}

// P23.3: Precinct
func TestPrecinct(t *testing.T) {
	for _, levels := range append([]int{-2, -1, 0, 1, 2, 5, 6, 7, 50}, extremes...) {
		for n := range 9 {
			p := api.Params{Levels: levels}
			for i := range n {
				p.Precincts = append(p.Precincts, api.Point{X: 3*i - 4, Y: 100 - i})
			}
			for _, res := range append([]int{-2, -1, 0, 1, 2, 3, 4, 5, 6, 7, 8, 9, 50, 51}, extremes...) {
				var want api.Point
				if res >= 0 && res <= levels {
					switch {
					case n == 0:
						want = api.Point{X: 12, Y: 12}
					case res < n:
						want = p.Precincts[res]
					}
				}
				if e := params.Precinct(p, res); e != want {
					t.Errorf("Precinct(%+v, %d) = %v; expected %v", p, res, e, want)
				}
			}
		}
	}
	if e := params.Precinct(api.Params{Levels: 2, Precincts: []api.Point{}}, 1); e != (api.Point{X: 12, Y: 12}) {
		t.Errorf("the exponents without precincts are %v", e)
	}
}

// modelPlanes is the definition of Planes.
func modelPlanes(p api.Params, band int) int {
	if band < 0 || band >= len(p.Steps) || p.Shift < 0 || p.Shift > 30 || p.Steps[band] < 1 || p.Steps[band] > 65536 || p.Dead < 8 || p.Dead > 32 {
		return 0
	}
	return bits.Len(uint(quant.Quantize(1<<28-1, p.Steps[band], p.Dead))) + p.Shift
}

func expectPlanes(t *testing.T, p api.Params, band int) {
	t.Helper()
	if n, want := params.Planes(p, band), modelPlanes(p, band); n != want {
		t.Errorf("Planes(%+v, %d) = %d; expected %d", p, band, n, want)
	}
}

// P23.3: Planes
func TestPlanes(t *testing.T) {
	steps := []int{1, 2, 3, 0, 65536, 65535, 65537, -1, 8, 1000}
	for _, band := range append([]int{-1, 0, 1, 2, 3, 4, 5, 6, 7, 8, 9, 10, 11, 16}, extremes...) {
		for _, dead := range append([]int{0, 7, 8, 9, 15, 16, 17, 24, 31, 32, 33}, extremes...) {
			for _, shift := range append([]int{-1, 0, 1, 7, 29, 30, 31}, extremes...) {
				expectPlanes(t, api.Params{Steps: steps, Dead: dead, Shift: shift}, band)
				expectPlanes(t, api.Params{Steps: steps[:2], Dead: dead, Shift: shift, Levels: 5}, band)
				expectPlanes(t, api.Params{Dead: dead, Shift: shift}, band)
			}
		}
	}
	for _, step := range extremes {
		expectPlanes(t, api.Params{Steps: []int{step}, Dead: 16}, 0)
	}
}

// P23.6
func TestPlanesOfValidParameters(t *testing.T) {
	low, high := math.MaxInt, 0
	for step := 1; step <= api.MaxStep; step += 1 + step/64 {
		for dead := api.MinDead; dead <= api.MaxDead; dead++ {
			for shift := range api.MaxShift + 1 {
				n := params.Planes(api.Params{Steps: []int{1, step}, Dead: dead, Shift: shift}, 1)
				low, high = min(low, n), max(high, n)
			}
		}
	}
	low = min(low, params.Planes(api.Params{Steps: []int{api.MaxStep}, Dead: api.MaxDead}, 0))
	if low < 1 || high > api.MaxPlanes {
		t.Errorf("Planes is from %d to %d", low, high)
	}
	source := rand.New(rand.NewPCG(23, 5))
	for range 2000 {
		p := drawnParams(source)
		expectCheck(t, image(r(0, 0, 1, 1), 1, 1, samples(1, 1)), p, api.OK)
		for band := range p.Steps {
			expectPlanes(t, p, band)
			if n := params.Planes(p, band); n < 1 || n > api.MaxPlanes {
				t.Errorf("Planes(%+v, %d) = %d", p, band, n)
			}
		}
	}
}

func expectLossless(t *testing.T, p api.Params, want bool) {
	t.Helper()
	if params.Lossless(p) != want {
		t.Errorf("Lossless(%+v) = %v", p, !want)
	}
}

// P23.3: Lossless
func TestLossless(t *testing.T) {
	for n := range 20 {
		for _, dead := range append([]int{-1, 0, 1, 7, 8, 9, 15, 16, 17, 30, 31, 32, 33, 47, 48}, extremes...) {
			p := api.Params{Steps: ones(n), Dead: dead}
			lossless := n > 0 && dead >= 8 && dead < 32
			expectLossless(t, p, lossless)
			for i := range n {
				for _, step := range append([]int{-1, 0, 2, 3, 65536}, extremes...) {
					p.Steps[i] = step
					expectLossless(t, p, false)
				}
				p.Steps[i] = 1
			}
			p.Levels, p.Kernel, p.Shift, p.Layers = n, 77, -5, 0
			expectLossless(t, p, lossless)
		}
	}
}

// leaves calls a function for each number and bool of a value.
func leaves(v reflect.Value, f func(leaf reflect.Value)) {
	switch v.Kind() {
	case reflect.Struct:
		for i := range v.NumField() {
			leaves(v.Field(i), f)
		}
	case reflect.Slice:
		for i := range v.Len() {
			leaves(v.Index(i), f)
		}
	default:
		f(v)
	}
}

// changed calls a function while a number or bool has other values, and then restores it.
func changed(leaf reflect.Value, f func()) {
	if leaf.Kind() == reflect.Bool {
		leaf.SetBool(!leaf.Bool())
		f()
		leaf.SetBool(!leaf.Bool())
		return
	}
	before := leaf.Int()
	for _, n := range []int64{before + 1, before - 1, -before - 1, before ^ 1<<40, math.MinInt64, math.MaxInt64} {
		leaf.SetInt(n)
		f()
	}
	leaf.SetInt(before)
}

func expectSame(t *testing.T, a, b api.Header, p, q api.Params, header, same bool) {
	t.Helper()
	if x, y := params.Same(a, b, p, q); x != header || y != same {
		t.Errorf("Same(%v, %v, %+v, %+v) = %v, %v", a, b, p, q, x, y)
	}
	if x, y := params.Same(b, a, q, p); x != header || y != same {
		t.Errorf("Same(%v, %v, %+v, %+v) = %v, %v", b, a, q, p, x, y)
	}
}

// full returns a header and parameters in which no slice is empty.
func full() (api.Header, api.Params) {
	p := coding(3)
	p.Precincts, p.Mode = fine(3), api.Mode{Bypass: true, Reset: true, Symbols: true}
	return image(r(1, 2, 30, 40), 7, 8, equal(4)...), p
}

// P23.4: each field matters
func TestSame(t *testing.T) {
	a, p := full()
	b, q := full()
	expectSame(t, a, b, p, q, true, true)
	leaves(reflect.ValueOf(&b).Elem(), func(leaf reflect.Value) {
		changed(leaf, func() { expectSame(t, a, b, p, q, false, true) })
	})
	leaves(reflect.ValueOf(&q).Elem(), func(leaf reflect.Value) {
		changed(leaf, func() { expectSame(t, a, b, p, q, true, false) })
	})
	expectSame(t, a, b, p, q, true, true)
	expectSame(t, a, api.Header{}, p, api.Params{}, false, false)
}

// P23.4: lengths of slices; nil and empty slices are equal
func TestSameLengths(t *testing.T) {
	a, p := full()
	for n := range 5 {
		b, q := full()
		b.Components = append(b.Components[:n], make([]api.Component, 4-n+1)...)
		expectSame(t, a, b, p, p, false, true)
		b.Components = b.Components[:n]
		expectSame(t, a, b, p, p, n == 4, true)
		q.Precincts = append(q.Precincts[:n], make([]api.Point, 4-n+1)...)
		expectSame(t, a, a, p, q, true, false)
		q.Precincts = q.Precincts[:n]
		expectSame(t, a, a, p, q, true, n == 4)
		_, q = full()
		q.Steps = append(q.Steps[:2*n], make([]int, 11-2*n)...)
		expectSame(t, a, a, p, q, true, false)
		q.Steps = ones(2*n + 2)
		expectSame(t, a, a, p, q, true, n == 4)
	}
	empty := api.Header{Components: []api.Component{}}
	expectSame(t, api.Header{}, empty, api.Params{}, api.Params{Precincts: []api.Point{}, Steps: []int{}}, true, true)
	expectSame(t, empty, api.Header{}, api.Params{Precincts: []api.Point{}}, api.Params{Steps: []int{}}, true, true)
}

// P23.4: copies are equal, also of slices that are nil or empty
func TestClone(t *testing.T) {
	source := rand.New(rand.NewPCG(23, 6))
	h, p := full()
	headers := []api.Header{h, {}, {Components: []api.Component{}}, image(r(5, 4, math.MinInt, math.MaxInt), -1, 0, equal(30)...)}
	coded := []api.Params{p, {}, {Precincts: []api.Point{}, Steps: []int{}}, {Kernel: -7, Levels: math.MaxInt, Precincts: fine(40), Steps: ones(300), Sync: true, Fence: true}}
	for range 50 {
		headers, coded = append(headers, drawnHeader(source, 50)), append(coded, drawnParams(source))
	}
	for i, h := range headers {
		for _, p := range []api.Params{coded[i], coded[0], coded[1]} {
			g, q := params.Clone(h, p)
			expectSame(t, h, g, p, q, true, true)
		}
	}
}

// memory is that of the slices of a header and of parameters, with what lies behind them.
type memory struct {
	components []api.Component
	precincts  []api.Point
	steps      []int
}

// spacious moves the slices of a header and of parameters to new memory, with other elements behind them.
func spacious(h *api.Header, p *api.Params) memory {
	m := memory{
		append(slices.Clone(h.Components), samples(3, 3), samples(3, 3)),
		append(slices.Clone(p.Precincts), api.Point{X: 3, Y: 3}, api.Point{X: 3, Y: 3}),
		append(slices.Clone(p.Steps), 3, 3),
	}
	h.Components, p.Precincts, p.Steps = m.components[:len(h.Components)], m.precincts[:len(p.Precincts)], m.steps[:len(p.Steps)]
	return m
}

// copy returns the same in other memory.
func (m memory) copy() memory {
	return memory{slices.Clone(m.components), slices.Clone(m.precincts), slices.Clone(m.steps)}
}

// P23.4: copies share no memory
func TestCloneSharesNoMemory(t *testing.T) {
	a, p := full()
	b, q := full()
	m := spacious(&b, &q)
	before := m.copy()
	g, s := params.Clone(b, q)
	clear(g.Components[:cap(g.Components)])
	clear(s.Precincts[:cap(s.Precincts)])
	if !slices.Equal(s.Steps, p.Steps) {
		t.Errorf("the steps of the copy are %v", s.Steps)
	}
	clear(s.Steps[:cap(s.Steps)])
	if !reflect.DeepEqual(m, before) {
		t.Errorf("the memory of the arguments becomes %v", m)
	}
	g, s = params.Clone(b, q)
	clear(m.components)
	clear(m.precincts)
	clear(m.steps)
	expectSame(t, a, g, p, s, true, true)
}

// Rule R6: arguments stay as they are, with what lies behind their slices
func TestArgumentsStay(t *testing.T) {
	source := rand.New(rand.NewPCG(23, 7))
	for range 300 {
		h, p := drawnHeader(source, 60), drawnParams(source)
		m := spacious(&h, &p)
		before := m.copy()
		params.Header(h)
		params.Check(h, p)
		params.Precinct(p, 1)
		params.Planes(p, 0)
		params.Lossless(p)
		params.Same(h, h, p, p)
		params.Clone(h, p)
		if !reflect.DeepEqual(m, before) {
			t.Fatalf("the memory of %v and %+v becomes %v", h, p, m)
		}
	}
}

// P23.5
func TestValidHeaders(t *testing.T) {
	source := rand.New(rand.NewPCG(23, 8))
	for i := range 4000 {
		h := drawnHeader(source, []int{8, 100, 1500, api.MaxSide}[i%4])
		if params.Header(h) != api.OK {
			continue
		}
		l, area := rect.Cells(h.Area, h.TileW, h.TileH), 0
		for _, tile := range l {
			area += rect.Area(tile)
			if !rect.Contains(h.Area, tile) {
				t.Errorf("%v has the tile %v", h, tile)
			}
		}
		if len(l) > api.MaxTiles || area != rect.Area(h.Area) || !slices.Equal(l, tiles(h)) {
			t.Errorf("%v has %d tiles with %d points", h, len(l), area)
		}
		for _, c := range h.Components {
			if n := rect.Area(rect.Reduce(h.Area, c.DX, c.DY)); n < 1 || n > api.MaxArea {
				t.Errorf("a component of %v has %d samples", h, n)
			}
		}
	}
}

// P23.7
func TestIndependence(t *testing.T) {
	source := rand.New(rand.NewPCG(23, 9))
	groups := faults()
	for i := range 2000 {
		h, p := drawnHeader(source, 400), drawnParams(source)
		if i%3 == 0 {
			h, p = image(r(0, 0, 600, 600), 2048, 2048, equal(3)...), coding(1)
			group := groups[source.IntN(len(groups))]
			group[source.IntN(len(group))].make(&h, &p)
		}
		header, check := params.Header(h), params.Check(h, p)
		for n := range 256 {
			bit := func(i int) bool { return n>>i&1 == 1 }
			p.Mode = api.Mode{Bypass: bit(0), Restart: bit(1), Reset: bit(2), Causal: bit(3), Symbols: bit(4)}
			p.Divide, p.Sync, p.Fence = bit(5), bit(6), bit(7)
			if n%31 == 0 {
				expectCheck(t, h, p, check)
			}
		}
		for i := range h.Components {
			h.Components[i].Signed = !h.Components[i].Signed
			expectHeader(t, h, header)
		}
	}
}

// The examples of the chapter.
func TestExamples(t *testing.T) {
	expectHeader(t, image(r(0, 0, 8, 5), 4, 4, samples(1, 1)), api.OK)
	expectHeader(t, image(r(0, 0, 33, 32), 1, 1, samples(1, 1)), api.ErrLimit)
	expectHeader(t, image(r(1, 0, 2, 1), 4, 4, samples(2, 1)), api.ErrHeader)
	p := coding(0)
	for _, c := range []struct{ shift, want int }{{0, 28}, {3, 31}} {
		p.Shift = c.shift
		if n := params.Planes(p, 0); n != c.want {
			t.Errorf("Planes with the shift %d is %d", c.shift, n)
		}
	}
	expectLossless(t, p, true)
	p.Dead = 32
	expectLossless(t, p, false)
	p = coding(0)
	p.BlockX, p.BlockY = 2, 2
	expectCheck(t, image(r(1, 1, 1025, 1025), 4096, 4096, samples(1, 1)), p, api.ErrLimit)
	p = coding(1)
	p.Precincts = []api.Point{{X: 0, Y: 0}, {X: 0, Y: 0}}
	expectCheck(t, image(r(0, 0, 8, 8), 8, 8, samples(1, 1)), p, api.ErrParams)
	p.Precincts[1] = api.Point{X: 1, Y: 1}
	expectCheck(t, image(r(0, 0, 8, 8), 8, 8, samples(1, 1)), p, api.OK)
}
