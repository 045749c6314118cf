package partition_test

import (
	"math"
	"math/rand/v2"
	"slices"
	"testing"

	"wavelet/api"
	"wavelet/partition"
	"wavelet/rect"
)

func r(x0, y0, x1, y1 int) api.Rect { return api.Rect{X0: x0, Y0: y0, X1: x1, Y1: y1} }

var whole = r(0, 0, api.MaxSide, api.MaxSide)

// extremes are no exponents, no orientations and no numbers of precincts.
var extremes = []int{math.MinInt, math.MinInt + 1, -1 << 32, -64, -2, -1, 1 << 16, 1 << 32, 1<<32 + 1, math.MaxInt - 1, math.MaxInt}

// noRects are rectangles that are not valid.
var noRects = []api.Rect{
	r(-1, 0, 4, 4), r(0, -1, 4, 4), r(0, 0, api.MaxSide+1, 4), r(0, 0, 4, api.MaxSide+1), r(5, 0, 4, 4), r(0, 5, 4, 4), r(4, 4, 0, 0),
	r(math.MinInt, 0, 4, 4), r(0, math.MinInt, 4, 4), r(0, 0, math.MaxInt, 4), r(0, 0, 4, math.MaxInt), r(math.MinInt, math.MinInt, math.MaxInt, math.MaxInt), r(math.MaxInt, math.MaxInt, math.MinInt, math.MinInt),
	r(-4, -4, 0, 0), r(-8, -8, -4, -4), r(api.MaxSide+1, 0, api.MaxSide+2, 4), r(0, math.MaxInt-1, 4, math.MaxInt), r(api.MaxSide+1, 0, api.MaxSide+1, 0),
}

// noPoints are valid rectangles that are empty.
var noPoints = []api.Rect{{}, r(3, 3, 3, 3), r(0, 5, 9, 5), r(5, 0, 5, 9), r(api.MaxSide, api.MaxSide, api.MaxSide, api.MaxSide), r(api.MaxSide, 0, api.MaxSide, api.MaxSide), r(0, api.MaxSide, api.MaxSide, api.MaxSide), r(0, 0, api.MaxSide, 0)}

// rects returns the rectangles with points that have coordinates up to the given one.
func rects(most int) []api.Rect {
	var l []api.Rect
	for x0 := range most {
		for y0 := range most {
			for x1 := x0 + 1; x1 <= most; x1++ {
				for y1 := y0 + 1; y1 <= most; y1++ {
					l = append(l, r(x0, y0, x1, y1))
				}
			}
		}
	}
	return l
}

// drawn returns rectangles with points, from small ones to large ones, also at the far end of the grid.
func drawn(source *rand.Rand, n int) []api.Rect {
	l := []api.Rect{whole, r(0, 0, 1, 1), r(api.MaxSide-1, api.MaxSide-1, api.MaxSide, api.MaxSide), r(0, 0, 1, api.MaxSide), r(api.MaxSide-1, 0, api.MaxSide, api.MaxSide), r(1, 1, api.MaxSide, api.MaxSide), r(api.MaxSide-33, api.MaxSide-65, api.MaxSide, api.MaxSide)}
	for range n {
		w, h := 1+source.IntN(1<<source.IntN(12)), 1+source.IntN(1<<source.IntN(12))
		x, y := source.IntN(api.MaxSide+1-w), source.IntN(api.MaxSide+1-h)
		if source.IntN(5) == 0 {
			x = api.MaxSide - w
		}
		l = append(l, r(x, y, x+w, y+h))
	}
	return l
}

// cell is the cell of the definition.
func cell(c, r, a, b int) api.Rect {
	w, h := 1, 1
	for range a {
		w *= 2
	}
	for range b {
		h *= 2
	}
	return api.Rect{X0: c * w, Y0: r * h, X1: (c + 1) * w, Y1: (r + 1) * h}
}

// part is the intersection of a rectangle with a cell, and where the cell is.
type part struct {
	r        api.Rect
	col, row int
}

// parts returns the intersections of a rectangle with the cells that have points of it, row by row, and how many columns and rows they have.
func parts(a api.Rect, ex, ey int) (l []part, cols, rows int) {
	for row := 0; cell(0, row, ex, ey).Y0 < a.Y1; row++ {
		before := len(l)
		for col := 0; cell(col, row, ex, ey).X0 < a.X1; col++ {
			if common := rect.Intersect(a, cell(col, row, ex, ey)); !rect.Empty(common) {
				l = append(l, part{common, col, row})
			}
		}
		if len(l) > before {
			cols, rows = len(l)-before, rows+1
		}
	}
	return l, cols, rows
}

// expectPrecincts checks the precincts of a resolution against the definition.
func expectPrecincts(t *testing.T, res api.Rect, px, py int) {
	t.Helper()
	l, wantCols, wantRows := parts(res, px, py)
	if cols, rows := partition.Precincts(res, px, py); cols != wantCols || rows != wantRows {
		t.Fatalf("Precincts(%v, %d, %d) = %d, %d; expected %d, %d", res, px, py, cols, rows, wantCols, wantRows)
	}
	for i, want := range l {
		if p, ok := partition.Precinct(res, px, py, i); !ok || p != want.r {
			t.Fatalf("Precinct(%v, %d, %d, %d) = %v, %v; expected %v", res, px, py, i, p, ok, want.r)
		}
	}
	for _, i := range append([]int{len(l), len(l) + 1, -len(l)}, extremes...) {
		rejectPrecinct(t, res, px, py, i)
	}
}

// rejectPrecinct checks that there is no precinct with a number.
func rejectPrecinct(t *testing.T, res api.Rect, px, py, index int) {
	t.Helper()
	if p, ok := partition.Precinct(res, px, py, index); ok || p != (api.Rect{}) {
		t.Fatalf("Precinct(%v, %d, %d, %d) = %v, %v", res, px, py, index, p, ok)
	}
	for o := api.LL; o <= api.HH; o++ {
		rejectInBand(t, res, res, o, px, py, index)
	}
}

// rejectInBand checks that there is no part of a subband.
func rejectInBand(t *testing.T, res, band api.Rect, o api.Orient, px, py, index int) {
	t.Helper()
	if p, ok := partition.InBand(res, band, o, px, py, index); ok || p != (api.Rect{}) {
		t.Fatalf("InBand(%v, %v, %d, %d, %d, %d) = %v, %v", res, band, o, px, py, index, p, ok)
	}
}

// P22.1, P22.2
func TestPrecinctsOfSmallResolutions(t *testing.T) {
	for _, res := range rects(6) {
		for px := range 5 {
			for py := range 5 {
				expectPrecincts(t, res, px, py)
			}
		}
	}
}

// P22.1, P22.2
func TestPrecinctsOfLargeResolutions(t *testing.T) {
	source := rand.New(rand.NewPCG(22, 1))
	for _, res := range drawn(source, 60) {
		for px := 5; px <= api.MaxPrecinctExp; px++ {
			expectPrecincts(t, res, px, 4+source.IntN(9))
		}
	}
	for exp := 4; exp <= api.MaxPrecinctExp; exp++ {
		expectPrecincts(t, whole, exp, exp)
	}
}

// rejectPrecincts checks that a resolution has no precincts.
func rejectPrecincts(t *testing.T, res api.Rect, px, py int) {
	t.Helper()
	if cols, rows := partition.Precincts(res, px, py); cols != 0 || rows != 0 {
		t.Fatalf("Precincts(%v, %d, %d) = %d, %d", res, px, py, cols, rows)
	}
	for _, index := range append([]int{0, 1, 2, 65535, 65536}, extremes...) {
		rejectPrecinct(t, res, px, py, index)
	}
}

// P22.1, P22.2, P22.3: exponents
func TestExponentsOfPrecincts(t *testing.T) {
	for _, res := range append(drawn(rand.New(rand.NewPCG(22, 2)), 10), noPoints...) {
		for _, no := range append([]int{api.MaxPrecinctExp + 1, api.MaxPrecinctExp + 2, 62, 63, 64, 65}, extremes...) {
			for _, other := range []int{0, 1, 5, api.MaxPrecinctExp, api.MaxPrecinctExp + 1, -1, no} {
				rejectPrecincts(t, res, no, other)
				rejectPrecincts(t, res, other, no)
			}
		}
	}
}

// P22.1, P22.2, P22.3: resolutions that are not valid or have no points
func TestNoResolutions(t *testing.T) {
	for _, res := range append(slices.Clone(noRects), noPoints...) {
		for px := range api.MaxPrecinctExp + 1 {
			for _, py := range []int{0, 1, 2, 7, api.MaxPrecinctExp} {
				rejectPrecincts(t, res, px, py)
			}
		}
	}
}

// limits are rectangles with exponents, and the numbers of columns and rows of their cells; 0 if they are too many.
var limits = []struct {
	r          api.Rect
	a, b       int
	cols, rows int
}{
	{r(0, 0, 256, 256), 0, 0, 256, 256},
	{r(3000, 7, 3256, 263), 0, 0, 256, 256},
	{r(0, 0, api.MaxSide, 16), 0, 0, api.MaxSide, 16},
	{r(5, 0, 21, api.MaxSide), 0, 0, 16, api.MaxSide},
	{r(0, 0, api.MaxSide, 17), 0, 0, 0, 0},
	{r(0, 0, 17, api.MaxSide), 0, 0, 0, 0},
	{r(0, 0, 257, 256), 0, 0, 0, 0},
	{r(0, 0, 256, 257), 0, 0, 0, 0},
	{r(0, 0, 331, 198), 0, 0, 0, 0}, // 65538, the least product beyond the limit
	{r(0, 0, 4095, 16), 0, 0, 4095, 16},
	{r(1, 0, 514, 512), 1, 1, 0, 0}, // 257 columns are met
	{r(1, 0, 512, 512), 1, 1, 256, 256},
	{whole, 0, 0, 0, 0},
	{whole, 4, 4, 256, 256},
	{whole, 3, 4, 0, 0},
	{whole, 4, 3, 0, 0},
	{whole, 3, 5, 512, 128},
	{whole, 2, 6, 1024, 64},
	{whole, 6, 2, 64, 1024},
	{whole, 6, 1, 0, 0},
	{whole, 0, 6, 0, 0},
}

// P22.1, P22.2, P22.3: the greatest number of precincts
func TestMostPrecincts(t *testing.T) {
	for _, c := range limits {
		cols, rows := partition.Precincts(c.r, c.a, c.b)
		if cols != c.cols || rows != c.rows {
			t.Errorf("Precincts(%v, %d, %d) = %d, %d; expected %d, %d", c.r, c.a, c.b, cols, rows, c.cols, c.rows)
		}
		rejectPrecinct(t, c.r, c.a, c.b, c.cols*c.rows)
		if c.cols == 0 {
			rejectPrecincts(t, c.r, c.a, c.b)
			continue
		}
		_, first := partition.Precinct(c.r, c.a, c.b, 0)
		last, ok := partition.Precinct(c.r, c.a, c.b, c.cols*c.rows-1)
		if want := rect.Intersect(c.r, cell((c.r.X1-1)>>c.a, (c.r.Y1-1)>>c.b, c.a, c.b)); !first || !ok || last != want {
			t.Errorf("the last precinct of %v with the exponents %d, %d is %v, %v; expected %v", c.r, c.a, c.b, last, ok, want)
		}
	}
	for _, c := range []struct{ px, py, cols, rows int }{{12, 12, 1, 1}, {11, 12, 2, 1}, {12, 11, 1, 2}, {12, 0, 1, api.MaxSide}, {0, 12, api.MaxSide, 1}, {8, 0, 16, api.MaxSide}, {7, 0, 0, 0}, {0, 7, 0, 0}} {
		if cols, rows := partition.Precincts(whole, c.px, c.py); cols != c.cols || rows != c.rows {
			t.Errorf("Precincts of the whole grid with %d, %d = %d, %d", c.px, c.py, cols, rows)
		}
	}
}

// covered counts for each point of a rectangle in how many others it lies. It fails if one of them has no points or others.
func covered(t *testing.T, a api.Rect, l []api.Rect) []int {
	t.Helper()
	w := a.X1 - a.X0
	counts := make([]int, rect.Area(a))
	for _, b := range l {
		if rect.Empty(b) || !rect.Contains(a, b) {
			t.Fatalf("%v has the part %v", a, b)
		}
		for y := b.Y0; y < b.Y1; y++ {
			for x := b.X0; x < b.X1; x++ {
				counts[(y-a.Y0)*w+x-a.X0]++
			}
		}
	}
	return counts
}

// expectDivided checks that each point of a rectangle lies in exactly one of others.
func expectDivided(t *testing.T, a api.Rect, l []api.Rect) {
	t.Helper()
	if slices.ContainsFunc(covered(t, a, l), func(n int) bool { return n != 1 }) {
		t.Fatalf("the points of %v do not lie in exactly one of %v", a, l)
	}
}

// P22.5
func TestPrecinctsDivideTheResolution(t *testing.T) {
	source := rand.New(rand.NewPCG(22, 3))
	for _, res := range append(drawn(source, 60), rects(5)...) {
		px, py := source.IntN(api.MaxPrecinctExp+1), source.IntN(api.MaxPrecinctExp+1)
		cols, rows := partition.Precincts(res, px, py)
		if cols*rows == 0 || rect.Area(res) > 1<<22 && cols*rows > 1 {
			continue
		}
		var l []api.Rect
		for i := range cols * rows {
			p, _ := partition.Precinct(res, px, py, i)
			l = append(l, p)
		}
		expectDivided(t, res, l)
	}
}

// expectInBand checks the parts of a subband in all precincts of a resolution against the definition.
func expectInBand(t *testing.T, res, band api.Rect, o api.Orient, px, py int) {
	t.Helper()
	l, _, _ := parts(res, px, py)
	for i, p := range l {
		want := rect.Intersect(band, cell(p.col, p.row, px, py))
		if o != api.LL {
			if px == 0 || py == 0 {
				rejectInBand(t, res, band, o, px, py, i)
				continue
			}
			want = rect.Intersect(band, cell(p.col, p.row, px-1, py-1))
		}
		if part, ok := partition.InBand(res, band, o, px, py, i); !ok || part != want {
			t.Fatalf("InBand(%v, %v, %d, %d, %d, %d) = %v, %v; expected %v", res, band, o, px, py, i, part, ok, want)
		}
	}
	for _, i := range append([]int{len(l), -len(l)}, extremes...) {
		rejectInBand(t, res, band, o, px, py, i)
	}
}

// P22.3: bands anywhere
func TestInBandOfSmallResolutions(t *testing.T) {
	bands := append(rects(5), noPoints...)
	for n, res := range rects(5) {
		for k := n % 3; k < len(bands); k += 3 {
			for px := range 4 {
				for py := range 4 {
					expectInBand(t, res, bands[k], api.Orient((n+k)%4), px, py)
				}
			}
		}
	}
}

// P22.3: large bands
func TestInBandOfLargeResolutions(t *testing.T) {
	source := rand.New(rand.NewPCG(22, 4))
	bands := append(drawn(source, 20), noPoints...)
	for _, res := range drawn(source, 20) {
		for _, band := range bands {
			for o := api.LL; o <= api.HH; o++ {
				expectInBand(t, res, band, o, 6+source.IntN(7), 6+source.IntN(7))
			}
		}
	}
}

// P22.3: exponents that are 0
func TestInBandWithoutExponents(t *testing.T) {
	source := rand.New(rand.NewPCG(22, 5))
	for _, res := range rects(4) {
		for _, band := range append(drawn(source, 3), res, api.Rect{}) {
			for _, exp := range []int{0, 1, 5, api.MaxPrecinctExp} {
				for o := api.LL; o <= api.HH; o++ {
					expectInBand(t, res, band, o, 0, exp)
					expectInBand(t, res, band, o, exp, 0)
				}
			}
		}
	}
}

// P22.3: orientations and bands that are not valid
func TestNoBands(t *testing.T) {
	for _, res := range []api.Rect{r(3, 0, 10, 5), r(0, 0, 1, 1), whole} {
		for _, exp := range []int{4, 5, api.MaxPrecinctExp} {
			for _, o := range append([]int{4, 5}, extremes...) {
				for _, band := range []api.Rect{res, r(1, 0, 5, 3), {}} {
					rejectInBand(t, res, band, api.Orient(o), exp, exp, 0)
				}
			}
			for o := api.LL; o <= api.HH; o++ {
				for _, band := range noRects {
					rejectInBand(t, res, band, o, exp, exp, 0)
				}
			}
		}
	}
}

// subband returns the subband of a resolution with an orientation.
func subband(res api.Rect, o api.Orient) api.Rect {
	low := func(x0, x1 int) (int, int) { return (x0 + 1) / 2, (x1 + 1) / 2 }
	high := func(x0, x1 int) (int, int) { return x0 / 2, x1 / 2 }
	across, down := low, low
	if o == api.HL || o == api.HH {
		across = high
	}
	if o == api.LH || o == api.HH {
		down = high
	}
	var band api.Rect
	band.X0, band.X1 = across(res.X0, res.X1)
	band.Y0, band.Y1 = down(res.Y0, res.Y1)
	return band
}

// P22.6
func TestPartsDivideTheSubband(t *testing.T) {
	source := rand.New(rand.NewPCG(22, 6))
	for _, res := range append(drawn(source, 60), rects(6)...) {
		px, py := 1+source.IntN(api.MaxPrecinctExp), 1+source.IntN(api.MaxPrecinctExp)
		cols, rows := partition.Precincts(res, px, py)
		if cols*rows == 0 || rect.Area(res) > 1<<22 && cols*rows > 1 {
			continue
		}
		for o := api.HL; o <= api.HH; o++ {
			band := subband(res, o)
			var l []api.Rect
			for i := range cols * rows {
				p, ok := partition.InBand(res, band, o, px, py, i)
				if !ok {
					t.Fatalf("InBand(%v, %v, %d, %d, %d, %d) returns false", res, band, o, px, py, i)
				}
				if p != (api.Rect{}) {
					l = append(l, p)
				}
			}
			expectDivided(t, band, l)
		}
	}
}

// P22.2, P22.3: a resolution that is its own subband
func TestPartsOfTheLowestResolution(t *testing.T) {
	for _, res := range rects(6) {
		for exp := range 4 {
			cols, rows := partition.Precincts(res, exp, 1)
			for i := range cols * rows {
				p, ok := partition.Precinct(res, exp, 1, i)
				if q, fine := partition.InBand(res, res, api.LL, exp, 1, i); !ok || !fine || p != q {
					t.Fatalf("the precinct %d of %v is %v, %v; its part of the subband %v, %v", i, res, p, ok, q, fine)
				}
			}
		}
	}
}

// expectBlocks checks the code blocks of a part against the definition.
func expectBlocks(t *testing.T, a api.Rect, bx, by int) {
	t.Helper()
	list, wantCols, wantRows := parts(a, bx, by)
	var want []api.Rect
	for _, b := range list {
		want = append(want, b.r)
	}
	if cols, rows, l := partition.Blocks(a, bx, by); cols != wantCols || rows != wantRows || !slices.Equal(l, want) {
		t.Fatalf("Blocks(%v, %d, %d) = %d, %d, %v; expected %d, %d, %v", a, bx, by, cols, rows, l, wantCols, wantRows, want)
	}
}

// P22.4
func TestBlocksOfSmallParts(t *testing.T) {
	for _, a := range rects(6) {
		for bx := range 5 {
			for by := range 5 {
				expectBlocks(t, a, bx, by)
			}
		}
	}
}

// P22.4
func TestBlocksOfLargeParts(t *testing.T) {
	source := rand.New(rand.NewPCG(22, 7))
	for _, a := range drawn(source, 40) {
		for bx := 4; bx <= api.MaxBlockExp; bx++ {
			expectBlocks(t, a, bx, 4+source.IntN(3))
		}
	}
}

// rejectBlocks checks that a part has no code blocks.
func rejectBlocks(t *testing.T, a api.Rect, bx, by int) {
	t.Helper()
	if cols, rows, l := partition.Blocks(a, bx, by); cols != 0 || rows != 0 || len(l) != 0 {
		t.Fatalf("Blocks(%v, %d, %d) = %d, %d, %v", a, bx, by, cols, rows, l)
	}
}

// P22.4: parts that are not valid or have no points, and exponents
func TestNoBlocks(t *testing.T) {
	for _, a := range append(slices.Clone(noRects), noPoints...) {
		for bx := range api.MaxBlockExp + 1 {
			for by := range api.MaxBlockExp + 1 {
				rejectBlocks(t, a, bx, by)
			}
		}
	}
	for _, a := range append(drawn(rand.New(rand.NewPCG(22, 8)), 10), noPoints...) {
		for _, no := range append([]int{api.MaxBlockExp + 1, api.MaxBlockExp + 2, api.MaxPrecinctExp, 62, 63, 64, 65}, extremes...) {
			for _, other := range []int{0, 1, 2, api.MaxBlockExp, api.MaxBlockExp + 1, -1, no} {
				rejectBlocks(t, a, no, other)
				rejectBlocks(t, a, other, no)
			}
		}
	}
}

// P22.4: the greatest number of code blocks
func TestMostBlocks(t *testing.T) {
	for _, c := range limits {
		cols, rows, l := partition.Blocks(c.r, c.a, c.b)
		if cols != c.cols || rows != c.rows || len(l) != c.cols*c.rows {
			t.Errorf("Blocks(%v, %d, %d) = %d, %d, and %d blocks; expected %d, %d", c.r, c.a, c.b, cols, rows, len(l), c.cols, c.rows)
			continue
		}
		for i, b := range l {
			if want := rect.Intersect(c.r, cell(c.r.X0>>c.a+i%cols, c.r.Y0>>c.b+i/cols, c.a, c.b)); b != want {
				t.Fatalf("Blocks(%v, %d, %d): the block %d is %v; expected %v", c.r, c.a, c.b, i, b, want)
			}
		}
	}
}

// P22.5
func TestBlocksDivideThePart(t *testing.T) {
	source := rand.New(rand.NewPCG(22, 9))
	for _, a := range append(drawn(source, 60), rects(5)...) {
		cols, rows, l := partition.Blocks(a, source.IntN(api.MaxBlockExp+1), source.IntN(api.MaxBlockExp+1))
		if len(l) != cols*rows {
			t.Fatalf("%v has %d blocks in %d columns and %d rows", a, len(l), cols, rows)
		}
		if len(l) > 0 && rect.Area(a) <= 1<<22 {
			expectDivided(t, a, l)
		}
	}
}

// Rule R6
func TestBlocksShareNoMemory(t *testing.T) {
	_, _, a := partition.Blocks(r(1, 0, 5, 3), 2, 1)
	_, _, b := partition.Blocks(r(1, 0, 5, 3), 2, 1)
	want := slices.Clone(b)
	clear(a[:cap(a)])
	_, _, again := partition.Blocks(r(1, 0, 5, 3), 2, 1)
	if !slices.Equal(b, want) || !slices.Equal(again, want) {
		t.Errorf("the blocks become %v and %v", b, again)
	}
}

// The examples of the chapter.
func TestExamples(t *testing.T) {
	res, band := r(3, 0, 10, 5), r(1, 0, 5, 3)
	if cols, rows := partition.Precincts(res, 2, 2); cols != 3 || rows != 2 {
		t.Errorf("Precincts = %d, %d", cols, rows)
	}
	for index, want := range map[int]api.Rect{0: r(3, 0, 4, 4), 5: r(8, 4, 10, 5)} {
		if p, ok := partition.Precinct(res, 2, 2, index); !ok || p != want {
			t.Errorf("the precinct %d is %v, %v", index, p, ok)
		}
	}
	for index, want := range map[int]api.Rect{0: r(1, 0, 2, 2), 4: r(2, 2, 4, 3)} {
		if p, ok := partition.InBand(res, band, api.HL, 2, 2, index); !ok || p != want {
			t.Errorf("the part in the precinct %d is %v, %v", index, p, ok)
		}
	}
	want := []api.Rect{r(1, 0, 4, 2), r(4, 0, 5, 2), r(1, 2, 4, 3), r(4, 2, 5, 3)}
	if cols, rows, l := partition.Blocks(band, 2, 1); cols != 2 || rows != 2 || !slices.Equal(l, want) {
		t.Errorf("Blocks = %d, %d, %v", cols, rows, l)
	}
}
