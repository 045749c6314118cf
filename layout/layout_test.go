package layout_test

import (
	"math"
	"math/rand/v2"
	"reflect"
	"slices"
	"testing"

	"wavelet/api"
	"wavelet/layout"
	"wavelet/params"
	"wavelet/pyramid"
	"wavelet/rect"
)

func r(x0, y0, x1, y1 int) api.Rect { return api.Rect{X0: x0, Y0: y0, X1: x1, Y1: y1} }

var whole = r(0, 0, api.MaxSide, api.MaxSide)

// extremes are numbers of nothing.
var extremes = []int{math.MinInt, math.MinInt + 1, -1 << 32, -65536, -2, -1, 65536, 1 << 32, 1<<32 + 1, 1 << 62, math.MaxInt - 1, math.MaxInt}

// samples returns a component with distances of samples.
func samples(dx, dy int) api.Component { return api.Component{Depth: 8, DX: dx, DY: dy} }

// image returns the header of an area in tiles.
func image(area api.Rect, w, h int, components ...api.Component) api.Header {
	return api.Header{Area: area, TileW: w, TileH: h, Components: components}
}

// coding returns valid parameters, with exponents of code blocks and of precincts.
func coding(levels, bx, by, layers int, precincts ...api.Point) api.Params {
	return api.Params{
		Kernel: api.LeGall, Levels: levels, BlockX: bx, BlockY: by, Precincts: precincts, Order: api.LRCP,
		Layers: layers, Steps: slices.Repeat([]int{1}, 3*levels+1), Dead: 16,
	}
}

// all returns the same exponents for so many levels.
func all(levels, x, y int) []api.Point { return slices.Repeat([]api.Point{{X: x, Y: y}}, levels+1) }

// size returns a number from 1 to the given one; small ones are more frequent.
func size(source *rand.Rand, most int) int { return 1 + source.IntN(1+source.IntN(most)) }

// drawn returns a valid header and valid parameters of an image with sides of up to so many points, some of them at the far end of the grid.
func drawn(source *rand.Rand, most int) (api.Header, api.Params) {
	for {
		w, h := size(source, most), size(source, most)
		x, y := source.IntN(api.MaxSide+1-w), source.IntN(api.MaxSide+1-h)
		switch source.IntN(4) {
		case 0:
			x, y = source.IntN(4), source.IntN(4)
		case 1:
			x, y = api.MaxSide-w, api.MaxSide-h
		}
		head := image(r(x, y, x+w, y+h), size(source, most), size(source, most))
		for range 1 + source.IntN(api.MaxComponents) {
			head.Components = append(head.Components, samples(1+source.IntN(api.MaxSub), 1+source.IntN(api.MaxSub)))
		}
		p := coding(source.IntN(api.MaxLevels+1), 2+source.IntN(5), 2+source.IntN(5), size(source, api.MaxLayers))
		if source.IntN(4) > 0 {
			for res := range p.Levels + 1 {
				p.Precincts = append(p.Precincts, api.Point{X: min(res, 1) + source.IntN(5), Y: min(res, 1) + source.IntN(size(source, 12))})
			}
		}
		if params.Check(head, p) == api.OK {
			return head, p
		}
	}
}

// images are headers and parameters of many kinds, all of them valid.
func images(t *testing.T) (headers []api.Header, coded []api.Params) {
	add := func(h api.Header, p api.Params) {
		if e := params.Check(h, p); e != api.OK {
			t.Fatalf("Check(%v, %+v) = %d", h, p, e)
		}
		headers, coded = append(headers, h), append(coded, p)
	}
	one := samples(1, 1)
	add(image(r(0, 0, 1, 1), 1, 1, one), coding(0, 2, 2, 1))
	add(image(r(0, 0, 1, 1), 4096, 4096, one, samples(4, 4)), coding(5, 6, 6, 16))
	add(image(r(4095, 4095, 4096, 4096), 4096, 4096, one), coding(5, 2, 6, 3, all(5, 1, 1)...))
	add(image(r(0, 0, 32, 32), 1, 1, one), coding(1, 2, 2, 1))
	add(image(r(3, 2, 1027, 3), 1, 1, samples(3, 1)), coding(2, 6, 2, 2))
	add(image(r(3, 4, 300, 260), 4096, 256, one, samples(2, 1), samples(4, 3)), coding(3, 3, 4, 2, api.Point{X: 0, Y: 12}, api.Point{X: 3, Y: 1}, api.Point{X: 5, Y: 4}, api.Point{X: 12, Y: 6}))
	add(image(r(5, 6, 69, 71), 20, 30, one, one, one, one), coding(2, 6, 5, 1, all(2, 2, 3)...))
	source := rand.New(rand.NewPCG(24, 1))
	for i := range 300 {
		add(drawn(source, []int{9, 30, 70}[i%3]))
	}
	return headers, coded
}

// up returns a quotient, rounded up.
func up(a, b int) int { return (a + b - 1) / b }

// reduced returns a rectangle whose coordinates are divided, rounded up.
func reduced(a api.Rect, dx, dy int) api.Rect {
	return r(up(a.X0, dx), up(a.Y0, dy), up(a.X1, dx), up(a.Y1, dy))
}

// cut returns the parts of a rectangle in cells of w by h points, row by row, and the columns and rows of the cells.
func cut(a api.Rect, w, h int) (l []api.Rect, places []api.Point) {
	for y := a.Y0 / h; y*h < a.Y1; y++ {
		for x := a.X0 / w; x*w < a.X1; x++ {
			if part := rect.Intersect(a, r(x*w, y*h, x*w+w, y*h+h)); !rect.Empty(part) {
				l, places = append(l, part), append(places, api.Point{X: x, Y: y})
			}
		}
	}
	return l, places
}

// corners returns how many columns and rows the places of a grid have.
func corners(places []api.Point) (cols, rows int) {
	if len(places) == 0 {
		return 0, 0
	}
	first, last := places[0], places[len(places)-1]
	return last.X - first.X + 1, last.Y - first.Y + 1
}

// exponents returns those of the precincts of a resolution.
func exponents(p api.Params, res int) api.Point {
	if len(p.Precincts) == 0 {
		return api.Point{X: 12, Y: 12}
	}
	return p.Precincts[res]
}

// half returns the exponents of the parts of the subbands in a precinct.
func half(p api.Params, res int) api.Point {
	e := exponents(p, res)
	if res > 0 {
		e.X, e.Y = e.X-1, e.Y-1
	}
	return e
}

// precinct is a precinct of the definition: its identity, and the code blocks of each subband, with the columns and rows of their cells.
type precinct struct {
	id     api.PacketID
	bands  []int
	blocks [][]api.Rect
	places [][]api.Point
}

// precincts returns those of a resolution of a component in a tile.
func precincts(of api.Rect, p api.Params, comp, res int) (l []precinct, cols, rows int) {
	e := exponents(p, res)
	_, cells := cut(pyramid.Resolution(of, p.Levels, res), 1<<e.X, 1<<e.Y)
	cols, rows = corners(cells)
	e = half(p, res)
	for i, at := range cells {
		next := precinct{id: api.PacketID{Comp: comp, Res: res, Precinct: i}, bands: []int{0}}
		if res > 0 {
			next.bands = []int{3*res - 2, 3*res - 1, 3 * res}
		}
		for _, band := range next.bands {
			part := rect.Intersect(pyramid.Band(of, p.Levels, band), r(at.X<<e.X, at.Y<<e.Y, (at.X+1)<<e.X, (at.Y+1)<<e.Y))
			blocks, places := cut(part, 1<<min(e.X, p.BlockX), 1<<min(e.Y, p.BlockY))
			next.blocks, next.places = append(next.blocks, blocks), append(next.places, places)
		}
		l = append(l, next)
	}
	return l, cols, rows
}

// ids returns the identities of the code blocks of a precinct.
func (a precinct) ids() []api.BlockID {
	var l []api.BlockID
	for k, band := range a.bands {
		for i, b := range a.blocks[k] {
			l = append(l, api.BlockID{Comp: a.id.Comp, Res: a.id.Res, Band: band, Precinct: a.id.Precinct, Index: i, Rect: b})
		}
	}
	return l
}

// expectTile checks all that is said of a tile against the definition.
func expectTile(t *testing.T, h api.Header, p api.Params, tile int, area api.Rect) {
	t.Helper()
	var every []api.BlockID
	packets := 0
	for comp, c := range h.Components {
		of := reduced(area, c.DX, c.DY)
		if a := layout.Component(h, tile, comp); a != of {
			t.Fatalf("Component(%v, %d, %d) = %v; expected %v", h, tile, comp, a, of)
		}
		for res := range p.Levels + 1 {
			l, wantCols, wantRows := precincts(of, p, comp, res)
			want := pyramid.Resolution(of, p.Levels, res)
			if a, cols, rows := layout.Resolution(h, p, tile, comp, res); a != want || cols != wantCols || rows != wantRows {
				t.Fatalf("Resolution(%v, %+v, %d, %d, %d) = %v, %d, %d; expected %v, %d, %d", h, p, tile, comp, res, a, cols, rows, want, wantCols, wantRows)
			}
			for _, a := range l {
				expectPrecinct(t, h, p, tile, a)
				every = append(every, a.ids()...)
			}
			for _, n := range []int{len(l), -1, extremes[(tile+comp+res)%len(extremes)]} {
				rejectPrecinct(t, h, p, tile, api.PacketID{Comp: comp, Res: res, Precinct: n})
			}
			packets += len(l) * p.Layers
		}
	}
	if l := layout.All(h, p, tile); !slices.Equal(l, every) {
		t.Fatalf("All(%v, %+v, %d) = %v; expected %v", h, p, tile, l, every)
	}
	if n := layout.Packets(h, p, tile); n != packets {
		t.Fatalf("Packets(%v, %+v, %d) = %d; expected %d", h, p, tile, n, packets)
	}
}

// expectPrecinct checks the code blocks of a precinct.
func expectPrecinct(t *testing.T, h api.Header, p api.Params, tile int, a precinct) {
	t.Helper()
	for _, a.id.Layer = range []int{a.id.Precinct, -1 << (a.id.Precinct % 64)} {
		if l := layout.Blocks(h, p, tile, a.id); !slices.Equal(l, a.ids()) {
			t.Fatalf("Blocks(%v, %+v, %d, %v) = %v; expected %v", h, p, tile, a.id, l, a.ids())
		}
	}
	for k, band := range a.bands {
		wantCols, wantRows := corners(a.places[k])
		if cols, rows := layout.Grid(h, p, tile, a.id.Comp, band, a.id.Precinct); cols != wantCols || rows != wantRows {
			t.Fatalf("Grid(%v, %+v, %d, %d, %d, %d) = %d, %d; expected %d, %d", h, p, tile, a.id.Comp, band, a.id.Precinct, cols, rows, wantCols, wantRows)
		}
	}
}

// rejectPrecinct checks that there is no such precinct.
func rejectPrecinct(t *testing.T, h api.Header, p api.Params, tile int, id api.PacketID) {
	t.Helper()
	if l := layout.Blocks(h, p, tile, id); len(l) != 0 {
		t.Fatalf("Blocks(%v, %+v, %d, %v) = %v", h, p, tile, id, l)
	}
	for _, band := range []int{3*id.Res - 2, 3*id.Res - 1, 3 * id.Res} {
		rejectGrid(t, h, p, tile, id.Comp, band, id.Precinct)
	}
}

// rejectGrid checks that there is no such part of a subband.
func rejectGrid(t *testing.T, h api.Header, p api.Params, tile, comp, band, precinct int) {
	t.Helper()
	if cols, rows := layout.Grid(h, p, tile, comp, band, precinct); cols != 0 || rows != 0 {
		t.Fatalf("Grid(%v, %+v, %d, %d, %d, %d) = %d, %d", h, p, tile, comp, band, precinct, cols, rows)
	}
}

// rejectResolution checks that there is no such resolution.
func rejectResolution(t *testing.T, h api.Header, p api.Params, tile, comp, res int) {
	t.Helper()
	if a, cols, rows := layout.Resolution(h, p, tile, comp, res); a != (api.Rect{}) || cols != 0 || rows != 0 {
		t.Fatalf("Resolution(%v, %+v, %d, %d, %d) = %v, %d, %d", h, p, tile, comp, res, a, cols, rows)
	}
}

// some returns up to so many numbers below n, the first and the last one among them.
func some(source *rand.Rand, n, most int) []int {
	l := []int{0, n - 1}
	for range most - 2 {
		l = append(l, source.IntN(n))
	}
	slices.Sort(l)
	return slices.Compact(l)
}

// P24.1 to P24.5
func TestTiles(t *testing.T) {
	source := rand.New(rand.NewPCG(24, 2))
	headers, coded := images(t)
	for i, h := range headers {
		want, _ := cut(h.Area, h.TileW, h.TileH)
		l := layout.Tiles(h)
		if !slices.Equal(l, want) {
			t.Fatalf("Tiles(%v) = %v; expected %v", h, l, want)
		}
		for _, tile := range some(source, len(l), 6) {
			expectTile(t, h, coded[i], tile, l[tile])
		}
	}
}

// P24.1 to P24.5: a tile of many samples, precincts and code blocks
func TestLargeTiles(t *testing.T) {
	for _, c := range []struct {
		h    api.Header
		p    api.Params
		tile int
	}{
		{image(whole, 4096, 4096, samples(4, 4)), coding(5, 6, 5, 1, all(5, 7, 8)...), 0},
		{image(r(0, 0, 1024, 1024), 1024, 1024, samples(1, 1)), coding(1, 2, 2, 1), 0},
		{image(r(3072, 3071, 4096, 4095), 900, 700, samples(1, 1), samples(2, 1)), coding(2, 4, 2, 2, api.Point{X: 6, Y: 5}, api.Point{X: 12, Y: 3}, api.Point{X: 4, Y: 9}), 3},
		{image(r(0, 0, 200, 200), 200, 200, samples(1, 1)), coding(1, 6, 6, 1, api.Point{X: 0, Y: 6}, api.Point{X: 2, Y: 1}), 0},
	} {
		expectTile(t, c.h, c.p, c.tile, layout.Tiles(c.h)[c.tile])
	}
}

// P24.5: just MaxPackets packets
func TestMostPackets(t *testing.T) {
	for _, c := range []struct {
		h    api.Header
		p    api.Params
		want int
	}{
		{image(r(0, 0, 256, 256), 256, 256, samples(1, 1)), coding(0, 6, 6, 1, all(0, 0, 0)...), 65536},
		{image(r(7, 9, 71, 73), 4096, 4096, samples(1, 1)), coding(0, 6, 6, 16, all(0, 0, 0)...), 65536},
		{image(r(0, 0, 510, 514), 4096, 4096, samples(1, 1)), coding(1, 6, 6, 1, api.Point{X: 12, Y: 12}, api.Point{X: 1, Y: 1}), 65536},
		{image(r(0, 0, 512, 512), 4096, 4096, samples(1, 1)), coding(1, 6, 6, 1, api.Point{X: 12, Y: 12}, api.Point{X: 1, Y: 1}), 0}, // one more
		{image(r(0, 0, 512, 512), 4096, 4096, samples(1, 1)), coding(5, 6, 6, 16), 96},
	} {
		if n := layout.Packets(c.h, c.p, 0); n != c.want {
			t.Errorf("Packets(%v, %+v, 0) = %d; expected %d", c.h, c.p, n, c.want)
		}
		if n := len(layout.All(c.h, c.p, 0)); (n > 0) != (c.want > 0) {
			t.Errorf("All(%v, %+v, 0) has %d code blocks", c.h, c.p, n)
		}
	}
}

// expectNothing checks that nothing is said of a tile.
func expectNothing(t *testing.T, h api.Header, p api.Params, tile int) {
	t.Helper()
	if l := layout.All(h, p, tile); len(l) != 0 {
		t.Fatalf("All(%v, %+v, %d) = %v", h, p, tile, l)
	}
	if n := layout.Packets(h, p, tile); n != 0 {
		t.Fatalf("Packets(%v, %+v, %d) = %d", h, p, tile, n)
	}
	for _, comp := range []int{0, 1, 3} {
		expectNoComponent(t, h, p, tile, comp)
	}
}

// expectNoComponent checks that nothing is said of a component in a tile.
func expectNoComponent(t *testing.T, h api.Header, p api.Params, tile, comp int) {
	t.Helper()
	for n := range 3 {
		rejectResolution(t, h, p, tile, comp, n)
		rejectPrecinct(t, h, p, tile, api.PacketID{Comp: comp, Res: n})
	}
}

// P24.1 to P24.5: tiles and components that are not there
func TestNoTiles(t *testing.T) {
	headers, coded := images(t)
	for i, h := range headers[:70] {
		p, n := coded[i], len(layout.Tiles(h))
		for _, tile := range append([]int{n, n + 1, -n}, extremes...) {
			expectNothing(t, h, p, tile)
			for comp := range h.Components {
				if a := layout.Component(h, tile, comp); a != (api.Rect{}) {
					t.Fatalf("Component(%v, %d, %d) = %v", h, tile, comp, a)
				}
			}
		}
		count := len(h.Components)
		for _, comp := range append([]int{count, count + 1, -count}, extremes...) {
			if a := layout.Component(h, n-1, comp); a != (api.Rect{}) {
				t.Fatalf("Component(%v, %d, %d) = %v", h, n-1, comp, a)
			}
			expectNoComponent(t, h, p, n-1, comp)
		}
	}
}

// P24.2 to P24.4: resolutions and subbands that are not there
func TestNoResolutions(t *testing.T) {
	headers, coded := images(t)
	for i, h := range headers {
		p := coded[i]
		for _, res := range append([]int{p.Levels + 1, p.Levels + 2, -p.Levels - 1}, extremes...) {
			rejectResolution(t, h, p, 0, 0, res)
			rejectPrecinct(t, h, p, 0, api.PacketID{Res: res})
		}
		for _, band := range append([]int{3*p.Levels + 1, 3*p.Levels + 2, 3*p.Levels + 3, 3*p.Levels + 4, -3*p.Levels - 1}, extremes...) {
			rejectGrid(t, h, p, 0, 0, band, 0)
		}
	}
}

// P24.1 to P24.5: headers and parameters that are not valid
func TestNotValid(t *testing.T) {
	fresh := func() (api.Header, api.Params) {
		return image(r(0, 0, 300, 300), 300, 300, samples(1, 1), samples(1, 1), samples(1, 1), samples(1, 1)), coding(1, 6, 6, 1)
	}
	for i, wrong := range []func(h *api.Header, p *api.Params){
		func(h *api.Header, _ *api.Params) { h.Area.X0 = -1 },
		func(h *api.Header, _ *api.Params) { h.Area.X1 = 0 },
		func(h *api.Header, _ *api.Params) { h.TileW = 0 },
		func(h *api.Header, _ *api.Params) { h.TileH = math.MaxInt },
		func(h *api.Header, _ *api.Params) { h.Components[3].Depth = 17 },
		func(h *api.Header, _ *api.Params) { h.Components[3].DX = 0 },
		func(h *api.Header, _ *api.Params) { h.Components = append(h.Components, samples(1, 1)) },
		func(h *api.Header, _ *api.Params) { h.Components = nil },
		func(h *api.Header, _ *api.Params) { h.TileW, h.TileH = 9, 9 },
		func(h *api.Header, _ *api.Params) { h.Area = r(0, 0, 1025, 1024) },
		func(_ *api.Header, p *api.Params) { p.Kernel = 0 },
		func(_ *api.Header, p *api.Params) { p.Color = 3 },
		func(_ *api.Header, p *api.Params) { p.Order = 0 },
		func(_ *api.Header, p *api.Params) { p.Levels = 0 },
		func(_ *api.Header, p *api.Params) { p.Levels = math.MaxInt },
		func(_ *api.Header, p *api.Params) { p.BlockX = 1 },
		func(_ *api.Header, p *api.Params) { p.BlockY = 7 },
		func(_ *api.Header, p *api.Params) { p.Precincts = all(1, 0, 0) },
		func(_ *api.Header, p *api.Params) { p.Precincts = all(2, 5, 5) },
		func(_ *api.Header, p *api.Params) { p.Precincts = all(1, 13, 5) },
		func(_ *api.Header, p *api.Params) { p.Precincts = all(1, 1, 1) }, // too many packets
		func(_ *api.Header, p *api.Params) { p.Layers = 0 },
		func(_ *api.Header, p *api.Params) { p.Steps[3] = 0 },
		func(_ *api.Header, p *api.Params) { p.Steps = nil },
		func(_ *api.Header, p *api.Params) { p.Dead = 7 },
		func(_ *api.Header, p *api.Params) { p.Shift = 31 },
		func(h *api.Header, p *api.Params) { p.Color, h.Components[1].Signed = api.RCT, true },
	} {
		h, p := fresh()
		wrong(&h, &p)
		if params.Check(h, p) == api.OK {
			t.Fatalf("%d: %v and %+v are valid", i, h, p)
		}
		for _, tile := range []int{0, 1, -1} {
			expectNothing(t, h, p, tile)
		}
		if params.Header(h) == api.OK {
			continue
		}
		if l := layout.Tiles(h); len(l) != 0 {
			t.Errorf("Tiles(%v) = %v", h, l)
		}
		if a := layout.Component(h, 0, 0); a != (api.Rect{}) {
			t.Errorf("Component(%v, 0, 0) = %v", h, a)
		}
	}
	h, p := fresh()
	if len(layout.All(h, p, 0)) == 0 {
		t.Errorf("there are no code blocks")
	}
	expectNothing(t, api.Header{}, api.Params{}, 0)
}

// P24.1, P24.2, P24.3: a component without samples in a tile, whose rectangle is not the zero Rect
func TestComponentsWithoutSamples(t *testing.T) {
	h, p := image(r(0, 0, 6, 4), 3, 4, samples(4, 1)), coding(2, 2, 2, 5)
	if a := layout.Component(h, 1, 0); a != r(1, 0, 2, 4) {
		t.Errorf("the component in tile 1 is %v", a)
	}
	h = image(r(0, 0, 8, 4), 2, 4, samples(4, 1))
	for tile, want := range []api.Rect{r(0, 0, 1, 4), r(1, 0, 1, 4), r(1, 0, 2, 4), r(2, 0, 2, 4)} {
		if a := layout.Component(h, tile, 0); a != want {
			t.Errorf("the component in tile %d is %v", tile, a)
		}
		expectTile(t, h, p, tile, layout.Tiles(h)[tile])
	}
	if a, cols, rows := layout.Resolution(h, p, 1, 0, 1); a != r(1, 0, 1, 2) || cols != 0 || rows != 0 {
		t.Errorf("resolution 1 is %v, %d, %d", a, cols, rows)
	}
	if n := layout.Packets(h, p, 1); n != 0 {
		t.Errorf("the tile without samples has %d packets", n)
	}
	if n := layout.Packets(h, p, 0); n != 15 {
		t.Errorf("the tile with samples has %d packets", n)
	}
}

// expectCovered checks that each coefficient of a subband lies in exactly one of its code blocks.
func expectCovered(t *testing.T, band api.Rect, p api.Params, blocks []api.BlockID) {
	t.Helper()
	w, points := band.X1-band.X0, map[int]int{}
	for _, b := range blocks {
		a := b.Rect
		if rect.Empty(a) || !rect.Contains(band, a) || a.X1-a.X0 > 1<<p.BlockX || a.Y1-a.Y0 > 1<<p.BlockY {
			t.Fatalf("the subband %v has the code block %v", band, a)
		}
		for y := a.Y0; y < a.Y1; y++ {
			for x := a.X0; x < a.X1; x++ {
				points[(y-band.Y0)*w+x-band.X0]++
			}
		}
	}
	if len(points) != rect.Area(band) {
		t.Fatalf("the code blocks %v have %d coefficients of the subband %v", blocks, len(points), band)
	}
	for _, n := range points {
		if n != 1 {
			t.Fatalf("a coefficient of the subband %v lies in %d of the code blocks %v", band, n, blocks)
		}
	}
}

// P24.6
func TestPartition(t *testing.T) {
	source := rand.New(rand.NewPCG(24, 3))
	headers, coded := images(t)
	for i, h := range headers {
		p, points := coded[i], map[api.Point]int{}
		l := layout.Tiles(h)
		for _, tile := range l {
			for y := tile.Y0; y < tile.Y1; y++ {
				for x := tile.X0; x < tile.X1; x++ {
					points[api.Point{X: x, Y: y}]++
				}
			}
		}
		for at, n := range points {
			if n != 1 || !rect.Has(h.Area, at) {
				t.Fatalf("the point %v lies in %d tiles of %v", at, n, h)
			}
		}
		if len(points) != rect.Area(h.Area) {
			t.Fatalf("the tiles of %v have %d points", h, len(points))
		}
		for _, tile := range some(source, len(l), 4) {
			bands := map[[2]int][]api.BlockID{}
			for _, b := range layout.All(h, p, tile) {
				bands[[2]int{b.Comp, b.Band}] = append(bands[[2]int{b.Comp, b.Band}], b)
			}
			for comp := range h.Components {
				for band := range 3*p.Levels + 1 {
					expectCovered(t, pyramid.Band(layout.Component(h, tile, comp), p.Levels, band), p, bands[[2]int{comp, band}])
				}
			}
		}
	}
}

// P24.7
func TestGrids(t *testing.T) {
	source := rand.New(rand.NewPCG(24, 4))
	headers, coded := images(t)
	for i, h := range headers {
		p := coded[i]
		for _, tile := range some(source, len(layout.Tiles(h)), 3) {
			every, packets := 0, 0
			for comp := range h.Components {
				for res := range p.Levels + 1 {
					_, cols, rows := layout.Resolution(h, p, tile, comp, res)
					packets += cols * rows * p.Layers
					for n := range cols * rows {
						sum := 0
						for _, band := range pyramid.Indices(p.Levels, res) {
							w, h := layout.Grid(h, p, tile, comp, band, n)
							sum += w * h
						}
						if l := layout.Blocks(h, p, tile, api.PacketID{Comp: comp, Res: res, Precinct: n, Layer: 3}); len(l) != sum {
							t.Fatalf("a precinct has %d code blocks, and grids of %d", len(l), sum)
						}
						every += sum
					}
				}
			}
			if n := len(layout.All(h, p, tile)); n != every {
				t.Fatalf("All(%v, %+v, %d) has %d code blocks; expected %d", h, p, tile, n, every)
			}
			if n := layout.Packets(h, p, tile); n != packets {
				t.Fatalf("Packets(%v, %+v, %d) = %d; expected %d", h, p, tile, n, packets)
			}
		}
	}
}

// memory is that of the slices of a header and of parameters, with what lies behind them.
type memory struct {
	components []api.Component
	precincts  []api.Point
	steps      []int
}

// spacious moves the slices of a header and of parameters to new memory, with other elements behind them.
func spacious(h *api.Header, p *api.Params) memory {
	m := memory{
		append(slices.Clone(h.Components), samples(3, 3), samples(3, 3)),
		append(slices.Clone(p.Precincts), api.Point{X: 3, Y: 3}, api.Point{X: 3, Y: 3}),
		append(slices.Clone(p.Steps), 3, 3),
	}
	h.Components, p.Precincts, p.Steps = m.components[:len(h.Components)], m.precincts[:len(p.Precincts)], m.steps[:len(p.Steps)]
	return m
}

// results returns what the functions that return slices return.
func results(h api.Header, p api.Params) ([]api.Rect, []api.BlockID, []api.BlockID) {
	return layout.Tiles(h), layout.Blocks(h, p, 0, api.PacketID{}), layout.All(h, p, 0)
}

// Rule R6: arguments stay as they are, with what lies behind their slices
func TestArgumentsStay(t *testing.T) {
	headers, coded := images(t)
	for i, h := range headers[:100] {
		p := coded[i]
		m := spacious(&h, &p)
		before := memory{slices.Clone(m.components), slices.Clone(m.precincts), slices.Clone(m.steps)}
		results(h, p)
		layout.Component(h, 0, 0)
		layout.Resolution(h, p, 0, 0, 0)
		layout.Grid(h, p, 0, 0, 0, 0)
		layout.Packets(h, p, 0)
		if !reflect.DeepEqual(m, before) {
			t.Fatalf("the memory of %v and %+v becomes %v", h, p, m)
		}
	}
}

// Rule R6: results share no memory
func TestResultsShareNoMemory(t *testing.T) {
	headers, coded := images(t)
	for i, h := range headers[:100] {
		p := coded[i]
		tiles, blocks, every := results(h, p)
		wantTiles, wantBlocks, wantEvery := slices.Clone(tiles), slices.Clone(blocks), slices.Clone(every)
		againTiles, againBlocks, againEvery := results(h, p)
		clear(tiles[:cap(tiles)])
		clear(every[:cap(every)])
		if !slices.Equal(blocks, wantBlocks) {
			t.Fatalf("the code blocks of a precinct change with those of the tile")
		}
		clear(blocks[:cap(blocks)])
		if !slices.Equal(againTiles, wantTiles) || !slices.Equal(againBlocks, wantBlocks) || !slices.Equal(againEvery, wantEvery) {
			t.Fatalf("results of %v and %+v share memory", h, p)
		}
	}
}

// Rule R5: precincts that are nil or empty
func TestEmptyPrecincts(t *testing.T) {
	h, p := image(r(1, 2, 30, 40), 20, 20, samples(1, 1), samples(2, 2)), coding(2, 3, 3, 2)
	q := p
	q.Precincts = []api.Point{}
	for tile := range layout.Tiles(h) {
		l := layout.All(h, p, tile)
		if len(l) == 0 || !slices.Equal(l, layout.All(h, q, tile)) || layout.Packets(h, p, tile) != layout.Packets(h, q, tile) {
			t.Errorf("nil and empty precincts differ in tile %d", tile)
		}
	}
}

// The examples of the chapter.
func TestExamples(t *testing.T) {
	h, p := image(r(0, 0, 16, 16), 16, 16, samples(1, 1)), coding(1, 2, 2, 3)
	if a, cols, rows := layout.Resolution(h, p, 0, 0, 1); a != r(0, 0, 16, 16) || cols != 1 || rows != 1 {
		t.Errorf("resolution 1 is %v, %d, %d", a, cols, rows)
	}
	for band := range 4 {
		if cols, rows := layout.Grid(h, p, 0, 0, band, 0); cols != 2 || rows != 2 {
			t.Errorf("Grid of subband %d is %d, %d", band, cols, rows)
		}
	}
	if l := layout.All(h, p, 0); len(l) != 16 || l[0] != (api.BlockID{Rect: r(0, 0, 4, 4)}) {
		t.Errorf("All is %v", l)
	}
	if n := layout.Packets(h, p, 0); n != 6 {
		t.Errorf("Packets is %d", n)
	}
	p.Precincts = all(1, 3, 3)
	if a, cols, rows := layout.Resolution(h, p, 0, 0, 0); a != r(0, 0, 8, 8) || cols != 1 || rows != 1 {
		t.Errorf("resolution 0 is %v, %d, %d", a, cols, rows)
	}
	if _, cols, rows := layout.Resolution(h, p, 0, 0, 1); cols != 2 || rows != 2 {
		t.Errorf("resolution 1 has %d by %d precincts", cols, rows)
	}
	for n := range 4 {
		for band := 1; band < 4; band++ {
			if cols, rows := layout.Grid(h, p, 0, 0, band, n); cols != 1 || rows != 1 {
				t.Errorf("Grid of subband %d in precinct %d is %d, %d", band, n, cols, rows)
			}
		}
	}
	if l := layout.Blocks(h, p, 0, api.PacketID{Res: 1, Precinct: 3}); len(l) != 3 || l[2] != (api.BlockID{Res: 1, Band: 3, Precinct: 3, Rect: r(4, 4, 8, 8)}) {
		t.Errorf("the code blocks of precinct 3 are %v", l)
	}
	if n := layout.Packets(h, p, 0); n != 15 {
		t.Errorf("Packets is %d", n)
	}
}
