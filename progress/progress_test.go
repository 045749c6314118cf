package progress_test

import (
	"math"
	"math/rand/v2"
	"reflect"
	"slices"
	"testing"

	"wavelet/api"
	"wavelet/layout"
	"wavelet/params"
	"wavelet/progress"
)

func r(x0, y0, x1, y1 int) api.Rect { return api.Rect{X0: x0, Y0: y0, X1: x1, Y1: y1} }

// extremes are numbers of nothing.
var extremes = []int{math.MinInt, math.MinInt + 1, -1 << 32, -65536, -2, -1, 65536, 1 << 32, 1<<32 + 1, 1 << 62, math.MaxInt - 1, math.MaxInt}

var orders = []api.Order{api.LRCP, api.RLCP, api.RPCL, api.PCRL, api.CPRL}

// numbers tells for each order by which numbers it sorts: layer, resolution, component, precinct (k), and the position (its y, then its x).
var numbers = map[api.Order]string{api.LRCP: "lrck", api.RLCP: "rlck", api.RPCL: "ryxckl", api.PCRL: "yxcrkl", api.CPRL: "cyxrkl"}

// samples returns a component with distances of samples.
func samples(dx, dy int) api.Component { return api.Component{Depth: 8, DX: dx, DY: dy} }

// image returns the header of an area in tiles.
func image(area api.Rect, w, h int, components ...api.Component) api.Header {
	return api.Header{Area: area, TileW: w, TileH: h, Components: components}
}

// coding returns valid parameters, with exponents of precincts.
func coding(order api.Order, levels, layers int, precincts ...api.Point) api.Params {
	return api.Params{
		Kernel: api.LeGall, Levels: levels, BlockX: 4, BlockY: 3, Precincts: precincts, Order: order,
		Layers: layers, Steps: slices.Repeat([]int{1}, 3*levels+1), Dead: 16,
	}
}

// all returns the same exponents for so many levels.
func all(levels, x, y int) []api.Point { return slices.Repeat([]api.Point{{X: x, Y: y}}, levels+1) }

// size returns a number from 1 to the given one; small ones are more frequent.
func size(source *rand.Rand, most int) int { return 1 + source.IntN(1+source.IntN(most)) }

// drawn returns a valid header and valid parameters of an image with sides of up to so many points, some of them at the far end of the grid.
func drawn(source *rand.Rand, most int) (api.Header, api.Params) {
	for {
		w, h := size(source, most), size(source, most)
		x, y := source.IntN(api.MaxSide+1-w), source.IntN(api.MaxSide+1-h)
		switch source.IntN(4) {
		case 0:
			x, y = source.IntN(4), source.IntN(4)
		case 1:
			x, y = api.MaxSide-w, api.MaxSide-h
		}
		head := image(r(x, y, x+w, y+h), size(source, most), size(source, most))
		for range 1 + source.IntN(api.MaxComponents) {
			head.Components = append(head.Components, samples(1+source.IntN(api.MaxSub), 1+source.IntN(api.MaxSub)))
		}
		p := coding(orders[source.IntN(5)], source.IntN(api.MaxLevels+1), size(source, api.MaxLayers))
		if source.IntN(4) > 0 {
			for res := range p.Levels + 1 {
				p.Precincts = append(p.Precincts, api.Point{X: min(res, 1) + source.IntN(4), Y: min(res, 1) + source.IntN(size(source, 12))})
			}
		}
		p.Divide, p.Sync, p.Fence = source.IntN(2) == 1, source.IntN(2) == 1, source.IntN(2) == 1
		if params.Check(head, p) == api.OK {
			return head, p
		}
	}
}

// images are headers and parameters of many kinds, all of them valid.
func images(t *testing.T) (headers []api.Header, coded []api.Params) {
	add := func(h api.Header, p api.Params) {
		t.Helper()
		if e := params.Check(h, p); e != api.OK {
			t.Fatalf("Check(%v, %+v) = %d", h, p, e)
		}
		headers, coded = append(headers, h), append(coded, p)
	}
	one := samples(1, 1)
	for _, o := range orders {
		add(image(r(0, 0, 1, 1), 1, 1, one), coding(o, 0, 1))
		add(image(r(0, 0, 1, 1), 4096, 4096, one, samples(4, 4)), coding(o, 5, 16))
		add(image(r(4095, 4095, 4096, 4096), 4096, 4096, one), coding(o, 5, 3, all(5, 1, 1)...)) // no lower resolutions
		add(image(r(0, 0, 32, 32), 1, 1, one), coding(o, 1, 1))
		add(image(r(0, 0, 8, 4), 2, 4, samples(4, 1), samples(1, 2)), coding(o, 2, 5)) // a component without samples in two tiles
		add(image(r(5, 6, 37, 39), 20, 30, one, samples(2, 1), samples(3, 2), samples(4, 4)), coding(o, 2, 2, all(2, 1, 1)...))
		add(image(r(8, 8, 24, 24), 16, 16, samples(1, 2), samples(2, 1)), coding(o, 1, 3, api.Point{}, api.Point{X: 1, Y: 1}))
	}
	source := rand.New(rand.NewPCG(25, 1))
	for i := range 600 {
		add(drawn(source, []int{9, 30, 70}[i%3]))
	}
	return headers, coded
}

// up returns a quotient, rounded up.
func up(a, b int) int { return (a + b - 1) / b }

// scaled returns the rectangle of the samples of a component, or of one of its resolutions, in a tile.
func scaled(a api.Rect, dx, dy int) api.Rect {
	return r(up(a.X0, dx), up(a.Y0, dy), up(a.X1, dx), up(a.Y1, dy))
}

// precinct is a precinct of the definition.
type precinct struct {
	id api.PacketID // with the layer 0
	at api.Point
}

// model returns the precincts of a tile, by component, resolution and number.
func model(h api.Header, p api.Params, tile int) []precinct {
	var l []precinct
	for comp, c := range h.Components {
		for res := range p.Levels + 1 {
			half := 1 << (p.Levels - res)
			e := api.Point{X: 12, Y: 12}
			if len(p.Precincts) > 0 {
				e = p.Precincts[res]
			}
			a := scaled(scaled(layout.Tiles(h)[tile], c.DX, c.DY), half, half)
			if a.X0 >= a.X1 || a.Y0 >= a.Y1 {
				continue
			}
			n := 0
			for y := a.Y0 >> e.Y; y<<e.Y < a.Y1; y++ {
				for x := a.X0 >> e.X; x<<e.X < a.X1; x++ {
					at := api.Point{X: max(a.X0, x<<e.X) * half * c.DX, Y: max(a.Y0, y<<e.Y) * half * c.DY}
					l = append(l, precinct{api.PacketID{Comp: comp, Res: res, Precinct: n}, at})
					n++
				}
			}
		}
	}
	return l
}

// number returns one of the numbers by which packets are sorted.
func (a precinct) number(letter rune) int {
	return map[rune]int{'l': a.id.Layer, 'r': a.id.Res, 'c': a.id.Comp, 'k': a.id.Precinct, 'x': a.at.X, 'y': a.at.Y}[letter]
}

// sorted returns the packets of a tile in an order.
func sorted(h api.Header, p api.Params, tile int) []api.PacketID {
	var l []precinct
	for _, a := range model(h, p, tile) {
		for a.id.Layer = range p.Layers {
			l = append(l, a)
		}
	}
	// Sorting by the last number first, and then by the others, keeps their order.
	for i := len(numbers[p.Order]) - 1; i >= 0; i-- {
		letter := rune(numbers[p.Order][i])
		keys := map[api.PacketID]int{}
		for _, a := range l {
			keys[a.id] = a.number(letter)
		}
		slices.SortStableFunc(l, func(a, b precinct) int { return keys[a.id] - keys[b.id] })
	}
	ids := make([]api.PacketID, len(l))
	for i, a := range l {
		ids[i] = a.id
	}
	return ids
}

// some returns up to so many numbers below n, the first and the last one among them.
func some(source *rand.Rand, n, most int) []int {
	l := []int{0, n - 1}
	for range most - 2 {
		l = append(l, source.IntN(n))
	}
	slices.Sort(l)
	return slices.Compact(l)
}

// sequence returns the packets of a tile that exists.
func sequence(t *testing.T, h api.Header, p api.Params, tile int) []api.PacketID {
	t.Helper()
	l, e := progress.Sequence(h, p, tile)
	if e != api.OK {
		t.Fatalf("Sequence(%v, %+v, %d) = %d", h, p, tile, e)
	}
	return l
}

// parts returns the tile-parts of a tile that exists.
func parts(t *testing.T, h api.Header, p api.Params, tile int) []int {
	t.Helper()
	l, e := progress.Parts(h, p, tile)
	if e != api.OK {
		t.Fatalf("Parts(%v, %+v, %d) = %d", h, p, tile, e)
	}
	return l
}

// P25.1, P25.5: the packets in their order
func TestSequence(t *testing.T) {
	source := rand.New(rand.NewPCG(25, 2))
	headers, coded := images(t)
	for i, h := range headers {
		for _, tile := range some(source, len(layout.Tiles(h)), 3) {
			for _, o := range orders {
				p := coded[i]
				p.Order = o
				l, want := sequence(t, h, p, tile), sorted(h, p, tile)
				if !slices.Equal(l, want) {
					t.Fatalf("Sequence(%v, %+v, %d) = %v; expected %v", h, p, tile, l, want)
				}
				if len(l) != layout.Packets(h, p, tile) {
					t.Fatalf("Sequence(%v, %+v, %d) has %d packets; expected %d", h, p, tile, len(l), layout.Packets(h, p, tile))
				}
			}
		}
	}
}

// P25.1, P25.4: just MaxPackets packets, in one and in MaxLayers layers
func TestMostPackets(t *testing.T) {
	for _, o := range orders {
		for _, c := range []struct {
			h api.Header
			p api.Params
		}{
			{image(r(0, 0, 256, 256), 256, 256, samples(1, 1)), coding(o, 0, 1, all(0, 0, 0)...)},
			{image(r(7, 9, 71, 73), 4096, 4096, samples(1, 1)), coding(o, 0, 16, all(0, 0, 0)...)},
			{image(r(0, 0, 510, 514), 4096, 4096, samples(1, 1)), coding(o, 1, 1, api.Point{X: 12, Y: 12}, api.Point{X: 1, Y: 1})},
		} {
			l := sequence(t, c.h, c.p, 0)
			if len(l) != api.MaxPackets || !slices.Equal(l, sorted(c.h, c.p, 0)) {
				t.Errorf("Sequence(%v, %+v, 0) has %d packets", c.h, c.p, len(l))
			}
			if n := parts(t, c.h, c.p, 0); !slices.Equal(n, []int{api.MaxPackets}) {
				t.Errorf("Parts(%v, %+v, 0) = %v", c.h, c.p, n)
			}
		}
	}
}

// expectPosition checks the position of a precinct, if there is one.
func expectPosition(t *testing.T, h api.Header, p api.Params, tile int, id api.PacketID, want api.Point, there bool) {
	t.Helper()
	if at, ok := progress.Position(h, p, tile, id); at != want || ok != there {
		t.Fatalf("Position(%v, %+v, %d, %v) = %v, %v; expected %v, %v", h, p, tile, id, at, ok, want, there)
	}
}

// P25.2, P25.8: positions, for any layer
func TestPosition(t *testing.T) {
	source := rand.New(rand.NewPCG(25, 3))
	headers, coded := images(t)
	for i, h := range headers {
		p, tiles := coded[i], layout.Tiles(h)
		for _, tile := range some(source, len(tiles), 3) {
			seen := map[[4]int]bool{}
			for _, a := range model(h, p, tile) {
				for _, a.id.Layer = range []int{0, p.Layers, extremes[source.IntN(len(extremes))]} {
					expectPosition(t, h, p, tile, a.id, a.at, true)
				}
				if a.at.X < tiles[tile].X0 || a.at.Y < tiles[tile].Y0 {
					t.Fatalf("the precinct %v of the tile %v is at %v", a.id, tiles[tile], a.at)
				}
				place := [4]int{a.id.Comp, a.id.Res, a.at.X, a.at.Y}
				if seen[place] {
					t.Fatalf("two precincts of a resolution are at %v", a.at)
				}
				seen[place] = true
			}
		}
	}
}

// nothing returns identities that differ from one of a packet in one field, so that there is no such precinct.
func nothing(h api.Header, p api.Params, tile int, id api.PacketID) []api.PacketID {
	_, cols, rows := layout.Resolution(h, p, tile, id.Comp, id.Res)
	var l []api.PacketID
	for _, n := range append([]int{len(h.Components), len(h.Components) + 1}, extremes...) {
		l = append(l, api.PacketID{Comp: n, Res: id.Res, Precinct: id.Precinct, Layer: id.Layer})
	}
	for _, n := range append([]int{p.Levels + 1, p.Levels + 2}, extremes...) {
		l = append(l, api.PacketID{Comp: id.Comp, Res: n, Precinct: id.Precinct, Layer: id.Layer})
	}
	for _, n := range append([]int{cols * rows, cols*rows + 1}, extremes...) {
		l = append(l, api.PacketID{Comp: id.Comp, Res: id.Res, Precinct: n, Layer: id.Layer})
	}
	return l
}

// noLayers returns identities of a precinct with layers that are not there.
func noLayers(p api.Params, id api.PacketID) []api.PacketID {
	var l []api.PacketID
	for _, id.Layer = range append([]int{p.Layers, p.Layers + 1, api.MaxLayers}, extremes...) {
		l = append(l, id)
	}
	return l
}

// expectNotBefore checks that a packet and an identity are not ordered.
func expectNotBefore(t *testing.T, h api.Header, p api.Params, tile int, a, b api.PacketID) {
	t.Helper()
	if progress.Before(h, p, tile, a, b) {
		t.Fatalf("Before(%v, %+v, %d, %v, %v)", h, p, tile, a, b)
	}
	if progress.Before(h, p, tile, b, a) {
		t.Fatalf("Before(%v, %+v, %d, %v, %v)", h, p, tile, b, a)
	}
}

// P25.2, P25.3: packets that are not packets of the tile, in each of their fields
func TestNoPackets(t *testing.T) {
	source := rand.New(rand.NewPCG(25, 4))
	headers, coded := images(t)
	for i, h := range headers[:120] {
		p, tile := coded[i], source.IntN(len(layout.Tiles(h)))
		l := sequence(t, h, p, tile)
		if len(l) == 0 {
			continue
		}
		for _, id := range []api.PacketID{l[0], l[len(l)-1], l[source.IntN(len(l))]} {
			for _, no := range nothing(h, p, tile, id) {
				expectPosition(t, h, p, tile, no, api.Point{}, false)
				expectNotBefore(t, h, p, tile, id, no)
				expectNotBefore(t, h, p, tile, no, no)
			}
			for _, no := range noLayers(p, id) {
				expectNotBefore(t, h, p, tile, id, no)
				expectNotBefore(t, h, p, tile, no, no)
			}
		}
	}
}

// P25.2, P25.3: a resolution that is empty, and a component without samples in a tile
func TestNoSamples(t *testing.T) {
	for _, o := range orders {
		h, p := image(r(1, 1, 2, 2), 4, 4, samples(1, 1)), coding(o, 3, 2)
		for res := range 3 {
			id := api.PacketID{Res: res}
			expectPosition(t, h, p, 0, id, api.Point{}, false)
			expectNotBefore(t, h, p, 0, id, api.PacketID{Res: 3})
		}
		expectPosition(t, h, p, 0, api.PacketID{Res: 3}, api.Point{X: 1, Y: 1}, true)
		if l := sequence(t, h, p, 0); !slices.Equal(l, []api.PacketID{{Res: 3}, {Res: 3, Layer: 1}}) {
			t.Errorf("the packets are %v", l)
		}
		h = image(r(0, 0, 8, 4), 2, 4, samples(4, 1))
		if l := sequence(t, h, p, 1); len(l) != 0 {
			t.Errorf("a tile without samples has the packets %v", l)
		}
		if l := parts(t, h, p, 1); !slices.Equal(l, []int{0}) {
			t.Errorf("a tile without samples has the tile-parts %v", l)
		}
		p.Divide = true
		want := map[api.Order]int{api.LRCP: 2, api.RLCP: 4, api.RPCL: 4, api.PCRL: 1, api.CPRL: 1}[o]
		if l := parts(t, h, p, 1); !slices.Equal(l, make([]int, want)) {
			t.Errorf("a tile without samples has the tile-parts %v", l)
		}
		expectPosition(t, h, p, 1, api.PacketID{}, api.Point{}, false)
	}
}

// P25.3, P25.5: every two packets of small tiles, and some of larger ones
func TestBefore(t *testing.T) {
	source := rand.New(rand.NewPCG(25, 5))
	headers, coded := images(t)
	for i, h := range headers {
		p, tile := coded[i], source.IntN(len(layout.Tiles(h)))
		l := sequence(t, h, p, tile)
		compare := func(a, b int) {
			if before := progress.Before(h, p, tile, l[a], l[b]); before != (a < b) {
				t.Fatalf("Before(%v, %+v, %d, %v, %v) = %v", h, p, tile, l[a], l[b], before)
			}
		}
		if len(l) <= 24 {
			for a := range l {
				for b := range l {
					compare(a, b)
				}
			}
			continue
		}
		for range 100 {
			a, b := source.IntN(len(l)), source.IntN(len(l))
			compare(a, b)
			compare(b, a)
			compare(a, a)
			compare(min(a+1, len(l)-1), a)
			compare(a, min(a+1, len(l)-1))
		}
	}
}

// group returns the number that the packets of one tile-part have in common, and how many tile-parts there are.
func group(h api.Header, p api.Params, id api.PacketID) (number, count int) {
	switch {
	case !p.Divide || p.Order == api.PCRL:
		return 0, 1
	case p.Order == api.LRCP:
		return id.Layer, p.Layers
	case p.Order == api.CPRL:
		return id.Comp, len(h.Components)
	}
	return id.Res, p.Levels + 1
}

// P25.4, P25.6
func TestParts(t *testing.T) {
	source := rand.New(rand.NewPCG(25, 6))
	headers, coded := images(t)
	for i, h := range headers {
		for _, tile := range some(source, len(layout.Tiles(h)), 3) {
			for k := range 10 {
				p := coded[i]
				p.Order, p.Divide = orders[k/2], k%2 == 1
				l, n := sequence(t, h, p, tile), parts(t, h, p, tile)
				_, count := group(h, p, api.PacketID{})
				if len(n) != count {
					t.Fatalf("Parts(%v, %+v, %d) = %v; expected %d tile-parts", h, p, tile, n, count)
				}
				at := 0
				for number, packets := range n {
					for _, id := range l[at : at+packets] {
						if g, _ := group(h, p, id); g != number {
							t.Fatalf("Parts(%v, %+v, %d) = %v: %v is in the tile-part %d", h, p, tile, n, id, number)
						}
					}
					at += packets
				}
				if at != len(l) {
					t.Fatalf("Parts(%v, %+v, %d) = %v; expected %d packets", h, p, tile, n, len(l))
				}
			}
		}
	}
}

// inOrder returns packets in an order that does not depend on the progression order.
func inOrder(l []api.PacketID) []api.PacketID {
	l = slices.Clone(l)
	slices.SortFunc(l, func(a, b api.PacketID) int {
		return slices.Compare([]int{a.Comp, a.Res, a.Precinct, a.Layer}, []int{b.Comp, b.Res, b.Precinct, b.Layer})
	})
	return l
}

// P25.5: the layers of a precinct ascend. P25.7: what the packets do not depend on
func TestOtherOrders(t *testing.T) {
	source := rand.New(rand.NewPCG(25, 7))
	headers, coded := images(t)
	for i, h := range headers {
		p, tile := coded[i], source.IntN(len(layout.Tiles(h)))
		first := sequence(t, h, p, tile)
		want := inOrder(first)
		for _, o := range orders {
			q := p
			q.Order, q.Divide, q.Sync, q.Fence = o, !p.Divide, !p.Sync, !p.Fence
			q.Kernel, q.BlockX, q.BlockY, q.Dead, q.Shift = api.Haar, 2+source.IntN(5), 6, 9, 3
			q.Steps = slices.Repeat([]int{77}, len(p.Steps))
			q.Mode = api.Mode{Bypass: true, Restart: true, Reset: true, Causal: true, Symbols: true}
			l := sequence(t, h, q, tile)
			if !slices.Equal(inOrder(l), want) {
				t.Fatalf("Sequence(%v, %+v, %d) = %v; expected %v in some order", h, q, tile, l, want)
			}
			if o == p.Order && !slices.Equal(l, first) {
				t.Fatalf("Sequence(%v, %+v, %d) = %v; expected %v", h, q, tile, l, first)
			}
			expectLayers(t, l)
		}
		p.Layers, p.Order = 1, api.LRCP
		first = sequence(t, h, p, tile)
		p.Order = api.RLCP
		if l := sequence(t, h, p, tile); !slices.Equal(l, first) {
			t.Fatalf("with one layer RLCP is %v, and LRCP %v", l, first)
		}
	}
}

// expectLayers checks that the layers of each precinct follow each other.
func expectLayers(t *testing.T, l []api.PacketID) {
	t.Helper()
	next := map[api.PacketID]int{}
	for _, id := range l {
		layer := id.Layer
		id.Layer = 0
		if layer != next[id] {
			t.Fatalf("the layer %d of %v comes where %d should come in %v", layer, id, next[id], l)
		}
		next[id]++
	}
}

// expectErrors checks the results for what is not valid or not there.
func expectErrors(t *testing.T, h api.Header, p api.Params, tile int, want api.Errno) {
	t.Helper()
	if l, e := progress.Sequence(h, p, tile); len(l) != 0 || e != want {
		t.Fatalf("Sequence(%v, %+v, %d) = %v, %d; expected %d", h, p, tile, l, e, want)
	}
	if l, e := progress.Parts(h, p, tile); len(l) != 0 || e != want {
		t.Fatalf("Parts(%v, %+v, %d) = %v, %d; expected %d", h, p, tile, l, e, want)
	}
	for _, res := range []int{0, 1, p.Levels} {
		a, b := api.PacketID{Res: res}, api.PacketID{Res: res, Layer: 1}
		expectPosition(t, h, p, tile, a, api.Point{}, false)
		expectNotBefore(t, h, p, tile, a, b)
	}
	expectNotBefore(t, h, p, tile, api.PacketID{}, api.PacketID{Res: 1})
}

// P25.1 to P25.4: tiles that are not there
func TestNoTiles(t *testing.T) {
	headers, coded := images(t)
	for i, h := range headers[:150] {
		p, n := coded[i], len(layout.Tiles(h))
		for _, tile := range append([]int{n, n + 1, -n}, extremes...) {
			expectErrors(t, h, p, tile, api.ErrTile)
		}
	}
}

// P25.1 to P25.4: headers and parameters that are not valid, whatever the tile is
func TestNotValid(t *testing.T) {
	fresh := func() (api.Header, api.Params) {
		return image(r(0, 0, 300, 300), 300, 300, samples(1, 1), samples(1, 1), samples(1, 1), samples(1, 1)), coding(api.RPCL, 1, 2)
	}
	for i, c := range []struct {
		want  api.Errno
		wrong func(h *api.Header, p *api.Params)
	}{
		{api.ErrHeader, func(h *api.Header, _ *api.Params) { h.Area.X0 = -1 }},
		{api.ErrHeader, func(h *api.Header, _ *api.Params) { h.Area.X1 = 0 }},
		{api.ErrHeader, func(h *api.Header, _ *api.Params) { h.TileW = 0 }},
		{api.ErrHeader, func(h *api.Header, _ *api.Params) { h.TileH = math.MaxInt }},
		{api.ErrHeader, func(h *api.Header, _ *api.Params) { h.Components[3].Depth = 17 }},
		{api.ErrHeader, func(h *api.Header, _ *api.Params) { h.Components[0].DX = 0 }},
		{api.ErrHeader, func(h *api.Header, _ *api.Params) { h.Components = append(h.Components, samples(1, 1)) }},
		{api.ErrHeader, func(h *api.Header, p *api.Params) { h.Components, p.Order = nil, 9 }},
		{api.ErrLimit, func(h *api.Header, _ *api.Params) { h.TileW, h.TileH = 9, 9 }},
		{api.ErrLimit, func(h *api.Header, p *api.Params) { h.Area, p.Kernel = r(0, 0, 1025, 1024), 0 }},
		{api.ErrKind, func(_ *api.Header, p *api.Params) { p.Kernel, p.Layers = 0, 0 }},
		{api.ErrKind, func(_ *api.Header, p *api.Params) { p.Color = 3 }},
		{api.ErrKind, func(_ *api.Header, p *api.Params) { p.Order = 0 }},
		{api.ErrKind, func(_ *api.Header, p *api.Params) { p.Order = 6 }},
		{api.ErrParams, func(_ *api.Header, p *api.Params) { p.Levels = 0 }},
		{api.ErrParams, func(_ *api.Header, p *api.Params) { p.Levels = math.MaxInt }},
		{api.ErrParams, func(_ *api.Header, p *api.Params) { p.Levels = math.MinInt }},
		{api.ErrParams, func(_ *api.Header, p *api.Params) { p.BlockX = 1 }},
		{api.ErrParams, func(_ *api.Header, p *api.Params) { p.Precincts = all(1, 0, 0) }},
		{api.ErrParams, func(_ *api.Header, p *api.Params) { p.Precincts = all(0, 5, 5) }},
		{api.ErrParams, func(_ *api.Header, p *api.Params) { p.Precincts = all(1, 64, 64) }},
		{api.ErrParams, func(_ *api.Header, p *api.Params) { p.Layers = 0 }},
		{api.ErrParams, func(_ *api.Header, p *api.Params) { p.Layers = 17 }},
		{api.ErrParams, func(_ *api.Header, p *api.Params) { p.Layers = math.MinInt }},
		{api.ErrParams, func(_ *api.Header, p *api.Params) { p.Steps = nil }},
		{api.ErrParams, func(_ *api.Header, p *api.Params) { p.Dead = 7 }},
		{api.ErrLimit, func(_ *api.Header, p *api.Params) { p.Precincts = all(1, 1, 1) }}, // too many packets
	} {
		h, p := fresh()
		if len(sequence(t, h, p, 0)) == 0 {
			t.Fatal("there are no packets")
		}
		c.wrong(&h, &p)
		if e := params.Check(h, p); e != c.want {
			t.Fatalf("%d: Check(%v, %+v) = %d; expected %d", i, h, p, e, c.want)
		}
		for _, tile := range []int{0, 1, -1, math.MaxInt, math.MinInt} {
			expectErrors(t, h, p, tile, c.want)
		}
	}
	expectErrors(t, api.Header{}, api.Params{}, 0, api.ErrHeader)
}

// memory is that of the slices of a header and of parameters, with what lies behind them.
type memory struct {
	components []api.Component
	precincts  []api.Point
	steps      []int
}

// spacious moves the slices of a header and of parameters to new memory, with other elements behind them.
func spacious(h *api.Header, p *api.Params) memory {
	m := memory{
		append(slices.Clone(h.Components), samples(3, 3), samples(3, 3)),
		append(slices.Clone(p.Precincts), api.Point{X: 3, Y: 3}, api.Point{X: 3, Y: 3}),
		append(slices.Clone(p.Steps), 3, 3),
	}
	h.Components, p.Precincts, p.Steps = m.components[:len(h.Components)], m.precincts[:len(p.Precincts)], m.steps[:len(p.Steps)]
	return m
}

// Rule R6: arguments stay as they are, with what lies behind their slices; results share no memory
func TestMemory(t *testing.T) {
	headers, coded := images(t)
	for i, h := range headers[:150] {
		p := coded[i]
		m := spacious(&h, &p)
		before := memory{slices.Clone(m.components), slices.Clone(m.precincts), slices.Clone(m.steps)}
		l, n := sequence(t, h, p, 0), parts(t, h, p, 0)
		wantL, wantN := slices.Clone(l), slices.Clone(n)
		againL, againN := sequence(t, h, p, 0), parts(t, h, p, 0)
		progress.Before(h, p, 0, api.PacketID{}, api.PacketID{})
		progress.Position(h, p, 0, api.PacketID{})
		if !reflect.DeepEqual(m, before) {
			t.Fatalf("the memory of %v and %+v becomes %v", h, p, m)
		}
		clear(l[:cap(l)])
		clear(n[:cap(n)])
		if !slices.Equal(againL, wantL) || !slices.Equal(againN, wantN) {
			t.Fatalf("results of %v and %+v share memory", h, p)
		}
	}
}

// Rule R5: precincts that are nil or empty
func TestEmptyPrecincts(t *testing.T) {
	h := image(r(1, 2, 30, 40), 20, 20, samples(1, 1), samples(2, 2))
	for _, o := range orders {
		p := coding(o, 2, 2)
		q := p
		p.Precincts, q.Precincts = nil, []api.Point{}
		for tile := range layout.Tiles(h) {
			if l := sequence(t, h, p, tile); len(l) == 0 || !slices.Equal(l, sequence(t, h, q, tile)) {
				t.Errorf("nil and empty precincts differ in tile %d", tile)
			}
		}
	}
}

// list returns the packets with the resolutions, precincts and layers of triples.
func list(triples ...[3]int) []api.PacketID {
	var l []api.PacketID
	for _, a := range triples {
		l = append(l, api.PacketID{Res: a[0], Precinct: a[1], Layer: a[2]})
	}
	return l
}

// The examples of the chapter.
func TestExamples(t *testing.T) {
	h := image(r(0, 0, 8, 8), 8, 8, samples(1, 1))
	p := coding(api.RPCL, 1, 1, api.Point{X: 1, Y: 1}, api.Point{X: 2, Y: 2})
	for res := range 2 {
		for i, at := range []api.Point{{X: 0, Y: 0}, {X: 4, Y: 0}, {X: 0, Y: 4}, {X: 4, Y: 4}} {
			expectPosition(t, h, p, 0, api.PacketID{Res: res, Precinct: i}, at, true)
		}
	}
	byResolution := list([3]int{0, 0}, [3]int{0, 1}, [3]int{0, 2}, [3]int{0, 3}, [3]int{1, 0}, [3]int{1, 1}, [3]int{1, 2}, [3]int{1, 3})
	byPosition := list([3]int{0, 0}, [3]int{1, 0}, [3]int{0, 1}, [3]int{1, 1}, [3]int{0, 2}, [3]int{1, 2}, [3]int{0, 3}, [3]int{1, 3})
	for o, want := range map[api.Order][]api.PacketID{api.LRCP: byResolution, api.RLCP: byResolution, api.RPCL: byResolution, api.PCRL: byPosition, api.CPRL: byPosition} {
		p.Order = o
		if l := sequence(t, h, p, 0); !slices.Equal(l, want) {
			t.Errorf("in the order %d the packets are %v; expected %v", o, l, want)
		}
	}
	p.Order = api.PCRL
	if !progress.Before(h, p, 0, api.PacketID{Res: 1}, api.PacketID{Precinct: 1}) {
		t.Error("in the order PCRL precinct 0 of resolution 1 does not come before precinct 1 of resolution 0")
	}
	p.Layers, p.Divide = 2, true
	for o, want := range map[api.Order][]int{api.LRCP: {8, 8}, api.RPCL: {8, 8}, api.PCRL: {16}, api.CPRL: {16}} {
		p.Order = o
		if n := parts(t, h, p, 0); !slices.Equal(n, want) {
			t.Errorf("in the order %d the tile-parts are %v; expected %v", o, n, want)
		}
	}
	p.Order = api.RPCL
	for _, id := range sequence(t, h, p, 0)[:8] {
		if id.Res != 0 {
			t.Errorf("the first tile-part contains %v", id)
		}
	}
}
