package roi_test

import (
	"math"
	"math/big"
	"math/rand/v2"
	"slices"
	"testing"

	"wavelet/api"
	"wavelet/layout"
	"wavelet/params"
	"wavelet/pyramid"
	"wavelet/quant"
	"wavelet/rect"
	"wavelet/roi"
)

func r(x0, y0, x1, y1 int) api.Rect { return api.Rect{X0: x0, Y0: y0, X1: x1, Y1: y1} }

// extremes are numbers of nothing.
var extremes = []int{math.MinInt, math.MinInt + 1, -1 << 32, -65536, -2, -1, 4097, 65536, 1 << 32, 1<<32 + 1, 1 << 62, math.MaxInt - 1, math.MaxInt}

// wrong are rectangles that are not valid or are empty.
var wrong = []api.Rect{
	{}, r(3, 3, 3, 9), r(3, 3, 9, 3), r(4096, 0, 4096, 1), r(5, 0, 2, 1), r(0, 5, 1, 2), r(-1, 0, 4, 4), r(0, -1, 4, 4), r(0, 0, 4097, 1), r(0, 0, 1, 4097),
	r(math.MinInt, 0, 4, 4), r(0, math.MinInt, math.MaxInt, 4), r(0, 0, math.MaxInt, math.MaxInt), r(math.MinInt, math.MinInt, math.MaxInt, math.MaxInt), r(math.MaxInt, 0, math.MinInt, 4),
}

// component returns a component with distances of samples.
func component(dx, dy int) api.Component { return api.Component{Depth: 8, DX: dx, DY: dy} }

// coding returns valid parameters.
func coding(kernel api.Kernel, levels int) api.Params {
	return api.Params{
		Kernel: kernel, Levels: levels, BlockX: 3, BlockY: 4, Order: api.LRCP,
		Layers: 1, Steps: slices.Repeat([]int{1}, 3*levels+1), Dead: 16, Shift: 5,
	}
}

// drawn returns a valid header and valid parameters of an image with sides of up to so many points.
func drawn(source *rand.Rand, most int) (api.Header, api.Params) {
	for {
		w, h := 1+source.IntN(most), 1+source.IntN(most)
		x, y := source.IntN(api.MaxSide+1-w), source.IntN(api.MaxSide+1-h)
		switch source.IntN(4) {
		case 0:
			x, y = source.IntN(4), source.IntN(4)
		case 1:
			x, y = api.MaxSide-w, api.MaxSide-h
		}
		head := api.Header{Area: r(x, y, x+w, y+h), TileW: 1 + source.IntN(most), TileH: 1 + source.IntN(most)}
		for range 1 + source.IntN(api.MaxComponents) {
			head.Components = append(head.Components, component(1+source.IntN(api.MaxSub), 1+source.IntN(api.MaxSub)))
		}
		p := coding(api.Kernel(1+source.IntN(3)), source.IntN(api.MaxLevels+1))
		if params.Check(head, p) == api.OK {
			return head, p
		}
	}
}

// part returns a valid rectangle with points, near a given one, in it, or beside it.
func part(source *rand.Rand, of api.Rect) api.Rect {
	between := func(low, high int) (from, to int) {
		low, high = max(0, low-source.IntN(2)*source.IntN(9)), min(api.MaxSide, high+source.IntN(2)*source.IntN(9))
		from = low + source.IntN(high-low)
		return from, from + 1 + source.IntN(high-from)
	}
	for {
		var a api.Rect
		a.X0, a.X1 = between(of.X0, of.X1)
		a.Y0, a.Y1 = between(of.Y0, of.Y1)
		if source.IntN(8) == 0 {
			a = r(source.IntN(4096), source.IntN(4096), 4096, 4096)
		}
		if rect.Valid(a) && !rect.Empty(a) {
			return a
		}
	}
}

// P30.1: numbers of rectangles, and rectangles of all kinds in each place
func TestValid(t *testing.T) {
	source := rand.New(rand.NewPCG(30, 1))
	expect := func(l []api.Rect, want api.Errno) {
		t.Helper()
		if e := roi.Valid(l); e != want {
			t.Errorf("Valid(%v) = %d; expected %d", l, e, want)
		}
	}
	expect(nil, api.OK)
	expect([]api.Rect{}, api.OK)
	for _, a := range []api.Rect{r(0, 0, 1, 1), r(0, 0, 4096, 4096), r(4095, 4095, 4096, 4096), r(3, 4, 5, 4096)} {
		expect([]api.Rect{a}, api.OK)
	}
	for _, n := range []int{7, 8, 9, 10, 300} {
		want := api.OK
		if n > 8 {
			want = api.ErrLimit
		}
		l := make([]api.Rect, n)
		for i := range l {
			l[i] = part(source, r(100, 200, 300, 250))
		}
		expect(l, want)
		expect(slices.Repeat(l[:1], n), want)
		for i := range l {
			for _, a := range wrong {
				c := slices.Clone(l)
				c[i] = a
				expect(c, map[bool]api.Errno{true: api.ErrRange, false: api.ErrLimit}[n <= 8])
			}
		}
	}
	for _, a := range wrong {
		expect([]api.Rect{a}, api.ErrRange)
	}
}

// reduced returns the rectangle of the samples in a rectangle of the grid.
func reduced(a api.Rect, c api.Component) api.Rect {
	up := func(n, d int) int { return (n + d - 1) / d }
	return r(up(a.X0, c.DX), up(a.Y0, c.DY), up(a.X1, c.DX), up(a.Y1, c.DY))
}

// bandModel follows the definition of the mask, for valid arguments.
func bandModel(h api.Header, p api.Params, tile, comp, band int, regions []api.Rect) []api.Rect {
	var mask []api.Rect
	area := layout.Tiles(h)[tile]
	for _, a := range regions {
		common := r(max(a.X0, area.X0), max(a.Y0, area.Y0), min(a.X1, area.X1), min(a.Y1, area.Y1))
		if rect.Empty(common) {
			continue
		}
		need := pyramid.Need(layout.Component(h, tile, comp), p.Levels, p.Levels, reduced(common, h.Components[comp]), p.Kernel)
		if !rect.Empty(need[band]) {
			mask = append(mask, need[band])
		}
	}
	return mask
}

// expectBand checks Band against the definition, and returns the mask.
func expectBand(t *testing.T, h api.Header, p api.Params, tile, comp, band int, regions []api.Rect) []api.Rect {
	t.Helper()
	want := bandModel(h, p, tile, comp, band, regions)
	if got := roi.Band(h, p, tile, comp, band, regions); !slices.Equal(got, want) {
		t.Fatalf("Band(%v, %+v, %d, %d, %d, %v) = %v; expected %v", h, p, tile, comp, band, regions, got, want)
	}
	return want
}

// expectNone checks that Band returns nothing.
func expectNone(t *testing.T, h api.Header, p api.Params, tile, comp, band int, regions []api.Rect) {
	t.Helper()
	if got := roi.Band(h, p, tile, comp, band, regions); len(got) != 0 {
		t.Fatalf("Band(%v, %+v, %d, %d, %d, %v) = %v", h, p, tile, comp, band, regions, got)
	}
}

// P30.2: all subbands of many images and regions, also those that do not exist
func TestBand(t *testing.T) {
	source := rand.New(rand.NewPCG(30, 2))
	full, empty := 0, 0
	for range 400 {
		h, p := drawn(source, []int{5, 20, 70}[source.IntN(3)])
		tiles := layout.Tiles(h)
		for range 10 {
			tile := source.IntN(len(tiles))
			var regions []api.Rect
			for range source.IntN(api.MaxRegions + 1) {
				regions = append(regions, part(source, tiles[tile]))
			}
			for comp := range h.Components {
				for band := range 3*p.Levels + 1 {
					if len(expectBand(t, h, p, tile, comp, band, regions)) > 0 {
						full++
					} else {
						empty++
					}
				}
				expectNone(t, h, p, tile, comp, 3*p.Levels+1, regions)
			}
			expectNone(t, h, p, tile, len(h.Components), 0, regions)
			expectNone(t, h, p, len(tiles), 0, 0, regions)
			for _, n := range extremes {
				expectNone(t, h, p, n, 0, 0, regions)
				expectNone(t, h, p, 0, n, 0, regions)
				expectNone(t, h, p, 0, 0, n, regions)
			}
		}
	}
	if full < 1000 || empty < 1000 {
		t.Errorf("%d masks with rectangles, and %d without", full, empty)
	}
}

// square returns an image of one tile, with parameters of one level.
func square() (api.Header, api.Params) {
	return api.Header{Area: r(0, 0, 16, 16), TileW: 16, TileH: 16, Components: []api.Component{component(1, 1)}}, coding(api.LeGall, 1)
}

// P30.2: rectangles in their order, each of them by itself, at the sides of the tile and over each other
func TestOrder(t *testing.T) {
	h, p := square()
	h.Area = r(0, 0, 32, 16)
	a, b, c := r(4, 4, 6, 6), r(0, 0, 4096, 4096), r(15, 0, 17, 1)
	for _, regions := range [][]api.Rect{{a, b, c}, {c, a, b}, {b, b, a, a}, {r(16, 0, 17, 1), a}, {a, r(0, 16, 9, 17), a}} {
		for tile := range 2 {
			for band := range 4 {
				expectBand(t, h, p, tile, 0, band, regions)
			}
		}
	}
	if l := roi.Band(h, p, 1, 0, 0, []api.Rect{a, r(15, 3, 16, 4), r(0, 16, 32, 17)}); len(l) != 0 {
		t.Errorf("the mask of regions beside the tile is %v", l)
	}
	if l := roi.Band(h, p, 1, 0, 0, []api.Rect{c, b, a}); !slices.Equal(l, []api.Rect{r(8, 0, 10, 2), r(8, 0, 16, 8)}) {
		t.Errorf("the mask is %v", l)
	}
	// no sample stands in the region, or none in the tile
	h.Components[0] = component(4, 4)
	if l := roi.Band(h, p, 0, 0, 0, []api.Rect{r(1, 1, 4, 4), r(5, 4, 8, 5), r(4, 5, 5, 8)}); len(l) != 0 {
		t.Errorf("the mask of no samples is %v", l)
	}
	h.Area, h.TileW, h.TileH = r(3, 3, 9, 9), 4, 4
	for tile := range 9 {
		for band := range 4 {
			expectBand(t, h, p, tile, 0, band, []api.Rect{b, r(4, 4, 5, 5)})
		}
	}
}

// P30.2: headers, parameters and regions that are not valid
func TestBandOfNothing(t *testing.T) {
	h, p := square()
	regions := []api.Rect{r(4, 4, 6, 6)}
	if len(expectBand(t, h, p, 0, 0, 0, regions)) == 0 {
		t.Fatal("there is no mask")
	}
	headers := slices.Repeat([]api.Header{h}, 6)
	headers[0] = api.Header{}
	headers[1].Components = nil
	headers[2].Components = slices.Repeat(h.Components, 5)
	headers[3].TileW = 0
	headers[4].Area.X1 = 4097
	headers[5].Components = []api.Component{component(1, 5)}
	for _, h := range headers {
		expectNone(t, h, p, 0, 0, 0, regions)
	}
	many := api.Header{Area: r(0, 0, 33, 32), TileW: 1, TileH: 1, Components: h.Components}
	expectNone(t, many, p, 0, 0, 0, []api.Rect{many.Area})
	list := slices.Repeat([]api.Params{p}, 12)
	list[0] = api.Params{}
	list[1].Kernel = 0
	list[2].Kernel = 4
	list[3].Color = api.RCT
	list[4].Order = 6
	list[5].Levels = 2
	list[6].Steps = nil
	list[7].Dead = 7
	list[8].Shift = 31
	list[9].Layers = 0
	list[10].BlockX = 7
	list[11].Precincts = []api.Point{{X: 0, Y: 0}, {X: 0, Y: 1}}
	for _, p := range list {
		expectNone(t, h, p, 0, 0, 0, regions)
	}
	for _, n := range extremes {
		q := p
		q.Levels = n
		expectNone(t, h, q, 0, 0, 0, regions)
		g := h
		g.TileH = n
		expectNone(t, g, p, 0, 0, 0, regions)
	}
	for _, a := range wrong {
		expectNone(t, h, p, 0, 0, 0, []api.Rect{a})
		expectNone(t, h, p, 0, 0, 0, append(slices.Clone(regions), a))
	}
	expectNone(t, h, p, 0, 0, 0, nil)
	expectNone(t, h, p, 0, 0, 0, []api.Rect{})
	if l := roi.Band(h, p, 0, 0, 0, slices.Repeat(regions, 8)); len(l) != 8 {
		t.Errorf("the mask of eight rectangles has %d", len(l))
	}
	expectNone(t, h, p, 0, 0, 0, slices.Repeat(regions, 9))
}

// P30.7: coefficients outside of the masks do not matter to the samples in the region
func TestCover(t *testing.T) {
	source := rand.New(rand.NewPCG(30, 3))
	outside, covered := 0, 0
	for range 500 {
		h, p := drawn(source, 60)
		tiles := layout.Tiles(h)
		tile, comp := source.IntN(len(tiles)), source.IntN(len(h.Components))
		regions := []api.Rect{part(source, tiles[tile]), part(source, tiles[tile])}
		of, c := layout.Component(h, tile, comp), h.Components[comp]
		var bands, others []api.Plane
		for band := range 3*p.Levels + 1 {
			a := api.Plane{Rect: pyramid.Band(of, p.Levels, band)}
			b := api.Plane{Rect: a.Rect}
			mask := roi.Band(h, p, tile, comp, band, regions)
			for y := a.Rect.Y0; y < a.Rect.Y1; y++ {
				for x := a.Rect.X0; x < a.Rect.X1; x++ {
					v := source.IntN(2001) - 1000
					a.Data = append(a.Data, v)
					if !lies(mask, x, y) {
						v = source.IntN(200001) - 100000
						outside++
					}
					b.Data = append(b.Data, v)
				}
			}
			bands, others = append(bands, a), append(others, b)
		}
		one, e := pyramid.Synthesize(bands, of, p.Levels, p.Levels, p.Kernel)
		other, otherError := pyramid.Synthesize(others, of, p.Levels, p.Levels, p.Kernel)
		if e != api.OK || otherError != api.OK {
			t.Fatalf("Synthesize = %d, %d", e, otherError)
		}
		i := 0
		for y := of.Y0; y < of.Y1; y++ {
			for x := of.X0; x < of.X1; x++ {
				if lies(regions, x*c.DX, y*c.DY) {
					covered++
					if one.Data[i] != other.Data[i] {
						t.Fatalf("the sample (%d, %d) depends on what lies outside of the masks of %v (%v, %+v, tile %d, component %d)", x, y, regions, h, p, tile, comp)
					}
				}
				i++
			}
		}
	}
	if outside < 1000 || covered < 1000 {
		t.Errorf("%d coefficients outside, and %d samples in the regions", outside, covered)
	}
}

// lies reports whether a coefficient lies in a mask.
func lies(mask []api.Rect, x, y int) bool {
	for _, m := range mask {
		if m.X0 <= x && x < m.X1 && m.Y0 <= y && y < m.Y1 {
			return true
		}
	}
	return false
}

// below reports whether an absolute value is less than 2^shift.
func below(v, shift int) bool {
	return new(big.Int).Abs(big.NewInt(int64(v))).Cmp(new(big.Int).Lsh(big.NewInt(1), uint(shift))) < 0
}

// block is what Scale and Fits get.
type block struct {
	values []int
	r      api.Rect
	mask   []api.Rect
	shift  int
}

// fitsModel follows P30.4.
func (b block) fitsModel() bool {
	if !rect.Valid(b.r) || b.shift < 0 || b.shift > 30 || len(b.values) != rect.Area(b.r) {
		return false
	}
	for i, v := range b.values {
		if w := b.r.X1 - b.r.X0; b.shift > 0 && !lies(b.mask, b.r.X0+i%w, b.r.Y0+i/w) && !below(v, b.shift) {
			return false
		}
	}
	return true
}

// scaleModel follows P30.3.
func (b block) scaleModel() ([]int, api.Errno) {
	switch {
	case !rect.Valid(b.r) || b.shift < 0 || b.shift > 30:
		return nil, api.ErrRange
	case len(b.values) != rect.Area(b.r):
		return nil, api.ErrLength
	case slices.ContainsFunc(b.values, func(v int) bool { return !below(v, 28) && v != 1<<28 && v != -1<<28 }):
		return nil, api.ErrRange
	case !b.fitsModel():
		return nil, api.ErrParams
	}
	l := slices.Clone(b.values)
	for i := range l {
		if w := b.r.X1 - b.r.X0; lies(b.mask, b.r.X0+i%w, b.r.Y0+i/w) {
			for range b.shift {
				l[i] *= 2
			}
		}
	}
	return l, api.OK
}

// expect checks Scale and Fits against the definition, and the consequences.
func (b block) expect(t *testing.T) api.Errno {
	t.Helper()
	if got, want := roi.Fits(b.values, b.r, b.mask, b.shift), b.fitsModel(); got != want {
		t.Fatalf("Fits(%v, %v, %v, %d) = %v; expected %v", b.values, b.r, b.mask, b.shift, got, want)
	}
	want, wantError := b.scaleModel()
	got, e := roi.Scale(b.values, b.r, b.mask, b.shift)
	if !slices.Equal(got, want) || e != wantError {
		t.Fatalf("Scale(%v, %v, %v, %d) = %v, %d; expected %v, %d", b.values, b.r, b.mask, b.shift, got, e, want, wantError)
	}
	if e == api.OK {
		b.expectRestored(t, got)
	}
	return e
}

// expectRestored checks that values that were scaled are restored (P30.5), and that those in the mask have priority (P30.6).
func (b block) expectRestored(t *testing.T, scaled []int) {
	t.Helper()
	for i, v := range scaled {
		if again, missing := quant.Unscale(v, 0, b.shift); again != b.values[i] || missing != 0 {
			t.Fatalf("the value %d with the shift %d has become %d, and this %d with %d missing planes", b.values[i], b.shift, v, again, missing)
		}
		w := b.r.X1 - b.r.X0
		inside := lies(b.mask, b.r.X0+i%w, b.r.Y0+i/w)
		if b.shift > 0 && v != 0 && inside == below(v, b.shift) {
			t.Fatalf("the value %d has become %d with the shift %d (in the mask: %v)", b.values[i], v, b.shift, inside)
		}
	}
}

// drawnBlock returns a block whose values fit if they are not large.
func drawnBlock(source *rand.Rand) block {
	w, h := source.IntN(9), source.IntN(9)
	x, y := source.IntN(4097-w), source.IntN(4097-h)
	if source.IntN(3) == 0 {
		x, y = 0, 0
	}
	b := block{r: r(x, y, x+w, y+h), shift: source.IntN(31)}
	for range source.IntN(5) {
		a := r(x+source.IntN(13)-3, y+source.IntN(13)-3, x+source.IntN(13)-3, y+source.IntN(13)-3)
		switch source.IntN(12) {
		case 0:
			a = wrong[source.IntN(len(wrong))]
		case 1:
			a.X0, a.Y1 = math.MinInt, math.MaxInt
		}
		b.mask = append(b.mask, a)
	}
	for i := range w * h {
		bits := b.shift
		if lies(b.mask, x+i%w, y+i/w) || b.shift == 0 {
			bits = source.IntN(30)
		}
		v := min(source.IntN(1<<bits), 1<<28)
		if source.IntN(4) == 0 {
			v = min(1<<bits-1, 1<<28)
		}
		if source.IntN(2) == 0 {
			v = -v
		}
		b.values = append(b.values, v)
	}
	return b
}

// atLeast checks that each error was returned so many times.
func atLeast(t *testing.T, n int, counts map[api.Errno]int, errors ...api.Errno) {
	t.Helper()
	for _, e := range errors {
		if counts[e] < n {
			t.Errorf("the error %d was returned only %d times", e, counts[e])
		}
	}
}

// P30.3 to P30.6: many blocks and masks, and values at the ends of their ranges and past them
func TestScale(t *testing.T) {
	source := rand.New(rand.NewPCG(30, 4))
	counts := map[api.Errno]int{}
	for range 20000 {
		b := drawnBlock(source)
		if e := b.expect(t); e != api.OK {
			t.Fatalf("Scale(%v, %v, %v, %d) = %d", b.values, b.r, b.mask, b.shift, e)
		}
		if len(b.values) == 0 {
			continue
		}
		one := &b.values[source.IntN(len(b.values))]
		old := *one
		for _, v := range []int{1<<b.shift - 1, 1 << b.shift, 1<<b.shift + 1, 1<<28 - 1, 1 << 28, 1<<28 + 1, math.MaxInt} {
			for _, *one = range []int{v, -v} {
				counts[b.expect(t)]++
			}
		}
		*one = math.MinInt
		counts[b.expect(t)]++
		*one = old
		for _, v := range []int{b.shift - 1, b.shift + 1, 0, 1, 29, 30, 31, -1} {
			b.shift = v
			counts[b.expect(t)]++
		}
	}
	atLeast(t, 1000, counts, api.OK, api.ErrRange, api.ErrParams)
}

// P30.3, P30.4: shifts and rectangles of all kinds, and numbers of values that are not those of the points
func TestScaleArguments(t *testing.T) {
	source := rand.New(rand.NewPCG(30, 5))
	counts := map[api.Errno]int{}
	for range 300 {
		b := drawnBlock(source)
		for _, n := range extremes {
			c := b
			c.shift = n
			counts[c.expect(t)]++
			for i := range 4 {
				c := b
				*[]*int{&c.r.X0, &c.r.Y0, &c.r.X1, &c.r.Y1}[i] = n
				counts[c.expect(t)]++
			}
		}
		for _, n := range []int{-1, 0, 1, 2, 28, 29, 30, 31, 32, 62, 63, 64, 65} {
			c := b
			c.shift = n
			counts[c.expect(t)]++
		}
		for _, a := range wrong {
			c := b
			c.r = a
			counts[c.expect(t)]++
			c.mask = []api.Rect{a}
			counts[c.expect(t)]++
			c.r = b.r
			counts[c.expect(t)]++
		}
		c := b
		c.values = append(slices.Clone(b.values), 0)
		counts[c.expect(t)]++
		c.values = b.values[:len(b.values)/2]
		counts[c.expect(t)]++
		c.values = nil
		counts[c.expect(t)]++
	}
	atLeast(t, 100, counts, api.OK, api.ErrRange, api.ErrLength)
	for _, a := range []api.Rect{{}, r(5, 5, 5, 9), r(5, 5, 9, 5), r(4096, 4096, 4096, 4096)} {
		for _, values := range [][]int{nil, {}} {
			if e := (block{values: values, r: a, mask: []api.Rect{r(0, 0, 4096, 4096)}, shift: 3}).expect(t); e != api.OK {
				t.Errorf("Scale of no values in %v = %d", a, e)
			}
		}
	}
}

// P30.3: each set of faults, of which the first one counts
func TestScaleErrors(t *testing.T) {
	for faults := range 32 {
		has := func(i int) bool { return faults>>i&1 == 1 }
		b := block{values: []int{1, 2, 3, 0}, r: r(0, 0, 2, 2), mask: []api.Rect{r(0, 0, 1, 2)}, shift: 2}
		want := api.OK
		if has(4) { // a value outside of the mask
			b.values[1], want = -4, api.ErrParams
		}
		if has(3) { // a value in the mask
			b.values[2], want = -1<<28-1, api.ErrRange
		}
		if has(2) {
			b.values, want = append(b.values, 0), api.ErrLength
		}
		if has(1) {
			b.shift, want = 31, api.ErrRange
		}
		if has(0) {
			b.r, want = r(2, 0, 0, 2), api.ErrRange
		}
		if e := b.expect(t); e != want {
			t.Errorf("Scale with the faults %b = %d; expected %d", faults, e, want)
		}
	}
}

// P30.3, P30.4: large blocks, and masks of many rectangles
func TestLargeBlocks(t *testing.T) {
	source := rand.New(rand.NewPCG(30, 6))
	for _, a := range []api.Rect{r(0, 0, 64, 64), r(4032, 4032, 4096, 4096), r(7, 9, 1031, 10), r(0, 0, 300, 200)} {
		b := block{r: a, shift: 4}
		for range rect.Area(a) {
			b.values = append(b.values, source.IntN(31)-15)
		}
		for _, n := range []int{0, 1, 8, 100} {
			b.mask = nil
			for range n {
				b.mask = append(b.mask, part(source, a))
			}
			if e := b.expect(t); e != api.OK {
				t.Errorf("Scale of the block %v = %d", a, e)
			}
		}
	}
}

// P30.3, P30.4: the whole grid, of which only a corner lies in the mask
func TestWholeGrid(t *testing.T) {
	grid := r(0, 0, 4096, 4096)
	values := make([]int, rect.Area(grid))
	values[len(values)-1] = 5
	corner := []api.Rect{r(4095, 4095, math.MaxInt, math.MaxInt)}
	l, e := roi.Scale(values, grid, corner, 1)
	if e != api.OK || len(l) != len(values) || l[len(l)-1] != 10 || slices.ContainsFunc(l[:len(l)-1], func(v int) bool { return v != 0 }) {
		t.Errorf("Scale of the whole grid: %d values, %d", len(l), e)
	}
	values[0] = 2
	if roi.Fits(values, grid, corner, 1) || !roi.Fits(values, grid, append(corner, r(0, 0, 1, 1)), 1) {
		t.Error("Fits of the whole grid")
	}
}

// behind returns elements with others behind them, within the capacity.
func behind[T any](l []T, other T) []T {
	return append(slices.Clone(l), other, other, other, other)[:len(l)]
}

// expectBehind checks that elements, and the others behind them, are as they were.
func expectBehind[T comparable](t *testing.T, l, want []T, other T) {
	t.Helper()
	if !slices.Equal(l, want) || !slices.Equal(l[len(l):len(l)+4], []T{other, other, other, other}) {
		t.Fatalf("an argument was changed: %v", l[:len(l)+4])
	}
}

// Rule R6: arguments stay as they are, with what lies behind them; results share no memory with them
func TestMemory(t *testing.T) {
	source := rand.New(rand.NewPCG(30, 7))
	other := r(-9, -9, -9, -9)
	for range 2000 {
		b := drawnBlock(source)
		if source.IntN(3) == 0 {
			b.shift = 0
		}
		values, mask := behind(b.values, -99), behind(b.mask, other)
		want, wantError := b.scaleModel()
		got, e := roi.Scale(values, b.r, mask, b.shift)
		roi.Fits(values, b.r, mask, b.shift)
		expectBehind(t, values, b.values, -99)
		expectBehind(t, mask, b.mask, other)
		for i := range values[:cap(values)] {
			values[:cap(values)][i] = 77
		}
		if !slices.Equal(got, want) || e != wantError {
			t.Fatalf("the result of Scale changes with its argument")
		}
	}
	for range 300 {
		h, p := drawn(source, 40)
		regions := []api.Rect{part(source, h.Area), part(source, h.Area)}
		given := behind(regions, other)
		none, tile := api.Component{Depth: 99}, source.IntN(len(layout.Tiles(h)))
		g, q := h, p
		g.Components, q.Steps, q.Precincts = behind(h.Components, none), behind(p.Steps, -9), behind(p.Precincts, api.Point{X: -9})
		want := bandModel(h, p, tile, 0, 0, regions)
		got := roi.Band(g, q, tile, 0, 0, given)
		roi.Valid(given)
		expectBehind(t, given, regions, other)
		expectBehind(t, g.Components, h.Components, none)
		expectBehind(t, q.Steps, p.Steps, -9)
		expectBehind(t, q.Precincts, p.Precincts, api.Point{X: -9})
		given[0], given[1] = other, other
		if !slices.Equal(got, want) {
			t.Fatalf("the result of Band changes with its argument")
		}
	}
}

// The examples of the chapter.
func TestExamples(t *testing.T) {
	for _, c := range []struct {
		l []api.Rect
		e api.Errno
	}{{nil, api.OK}, {[]api.Rect{r(3, 3, 3, 4)}, api.ErrRange}, {slices.Repeat([]api.Rect{r(0, 0, 1, 1)}, 9), api.ErrLimit}} {
		if e := roi.Valid(c.l); e != c.e {
			t.Errorf("Valid(%v) = %d; expected %d", c.l, e, c.e)
		}
	}
	h, p := square()
	for band := range 4 {
		if l := roi.Band(h, p, 0, 0, band, []api.Rect{r(4, 4, 6, 6)}); !slices.Equal(l, []api.Rect{r(1, 1, 4, 4)}) {
			t.Errorf("the mask of the subband %d is %v", band, l)
		}
	}
	mask := []api.Rect{r(0, 0, 1, 2)}
	if l, e := roi.Scale([]int{1, 2, 3, 0}, r(0, 0, 2, 2), mask, 2); !slices.Equal(l, []int{4, 2, 12, 0}) || e != api.OK {
		t.Errorf("Scale = %v, %d", l, e)
	}
	if l, e := roi.Scale([]int{1, 2, 3, 0}, r(0, 0, 2, 2), mask, 1); len(l) != 0 || e != api.ErrParams {
		t.Errorf("Scale = %v, %d", l, e)
	}
}
