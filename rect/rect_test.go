package rect_test

import (
	"math"
	"slices"
	"testing"

	"wavelet/api"
	"wavelet/rect"
)

func r(x0, y0, x1, y1 int) api.Rect { return api.Rect{X0: x0, Y0: y0, X1: x1, Y1: y1} }

// rects returns all rectangles with coordinates from low to high, also those that are not valid or that are empty.
func rects(low, high int) []api.Rect {
	var l []api.Rect
	for x0 := low; x0 <= high; x0++ {
		for y0 := low; y0 <= high; y0++ {
			for x1 := low; x1 <= high; x1++ {
				for y1 := low; y1 <= high; y1++ {
					l = append(l, r(x0, y0, x1, y1))
				}
			}
		}
	}
	return l
}

// points returns all points with coordinates from low to high, row by row.
func points(low, high int) []api.Point {
	var l []api.Point
	for y := low; y <= high; y++ {
		for x := low; x <= high; x++ {
			l = append(l, api.Point{X: x, Y: y})
		}
	}
	return l
}

// extremes are rectangles whose coordinates reach to the ends of the integers.
func extremes() []api.Rect {
	var l []api.Rect
	values := []int{math.MinInt, -1, 0, 1, api.MaxSide, api.MaxSide + 1, math.MaxInt}
	for _, x0 := range values {
		for _, y0 := range values {
			for _, x1 := range values {
				for _, y1 := range values {
					l = append(l, r(x0, y0, x1, y1))
				}
			}
		}
	}
	return l
}

// P1.1
func TestDivisionsFollowTheirDefinition(t *testing.T) {
	for a := -40; a <= 40; a++ {
		for b := 1; b <= 9; b++ {
			if c := rect.CeilDiv(a, b); c*b < a || (c-1)*b >= a {
				t.Errorf("CeilDiv(%d, %d) = %d", a, b, c)
			}
			if f := rect.FloorDiv(a, b); f*b > a || (f+1)*b <= a {
				t.Errorf("FloorDiv(%d, %d) = %d", a, b, f)
			}
		}
	}
}

// P1.1
func TestDivisionsOfExtremes(t *testing.T) {
	for _, c := range []struct{ a, b, ceil, floor int }{
		{-7, 2, -3, -4},
		{math.MaxInt, 1, math.MaxInt, math.MaxInt},
		{math.MinInt, 1, math.MinInt, math.MinInt},
		{math.MaxInt, 2, 1 << 62, 1<<62 - 1},
		{math.MinInt, 2, -1 << 62, -1 << 62},
		{math.MinInt, 3, -3074457345618258602, -3074457345618258603},
		{math.MaxInt, math.MaxInt, 1, 1},
		{math.MinInt, math.MaxInt, -1, -2},
		{-1, math.MaxInt, 0, -1},
		{1, math.MaxInt, 1, 0},
		{7, 0, 0, 0},
		{7, -1, 0, 0},
		{math.MinInt, -1, 0, 0},
		{math.MinInt, math.MinInt, 0, 0},
		{math.MaxInt, math.MinInt, 0, 0},
	} {
		if ceil, floor := rect.CeilDiv(c.a, c.b), rect.FloorDiv(c.a, c.b); ceil != c.ceil || floor != c.floor {
			t.Errorf("CeilDiv and FloorDiv of %d by %d = %d, %d; expected %d, %d", c.a, c.b, ceil, floor, c.ceil, c.floor)
		}
	}
}

// P1.2
func TestValid(t *testing.T) {
	for _, c := range []struct {
		r     api.Rect
		valid bool
	}{
		{r(0, 0, 0, 0), true},
		{r(0, 0, api.MaxSide, api.MaxSide), true},
		{r(api.MaxSide, api.MaxSide, api.MaxSide, api.MaxSide), true},
		{r(2, 3, 2, 9), true},
		{r(2, 3, 9, 3), true},
		{r(3, 0, 8, 5), true},
		{r(-1, 0, 1, 1), false},
		{r(0, -1, 1, 1), false},
		{r(0, 0, api.MaxSide+1, 1), false},
		{r(0, 0, 1, api.MaxSide+1), false},
		{r(api.MaxSide+1, 0, api.MaxSide+1, 0), false},
		{r(5, 0, 2, 1), false},
		{r(0, 5, 1, 2), false},
		{r(math.MinInt, 0, math.MaxInt, 1), false},
		{r(0, 0, math.MinInt, 1), false},
		{r(0, math.MaxInt, 1, math.MaxInt), false},
	} {
		if v := rect.Valid(c.r); v != c.valid {
			t.Errorf("Valid(%v) = %v", c.r, v)
		}
	}
}

// P1.2
func TestEmptyHasAndAreaCountPoints(t *testing.T) {
	l := points(-2, 4)
	for _, a := range rects(-1, 3) {
		n := 0
		for _, p := range l {
			in := p.X >= a.X0 && p.X < a.X1 && p.Y >= a.Y0 && p.Y < a.Y1
			if rect.Has(a, p) != in {
				t.Fatalf("Has(%v, %v) = %v", a, p, !in)
			}
			if in {
				n++
			}
		}
		if rect.Empty(a) != (n == 0) {
			t.Fatalf("Empty(%v) = %v; it has %d points", a, rect.Empty(a), n)
		}
		if !rect.Valid(a) {
			n = 0
		}
		if rect.Area(a) != n {
			t.Fatalf("Area(%v) = %d; expected %d", a, rect.Area(a), n)
		}
	}
}

// P1.2
func TestAreaOfLargeRectangles(t *testing.T) {
	for _, c := range []struct {
		r    api.Rect
		area int
	}{
		{r(0, 0, api.MaxSide, api.MaxSide), 1 << 24},
		{r(1, 2, api.MaxSide, api.MaxSide), 4095 * 4094},
		{r(0, 0, api.MaxSide+1, api.MaxSide), 0},
		{r(0, 0, math.MaxInt, math.MaxInt), 0},
		{r(math.MinInt, math.MinInt, math.MaxInt, math.MaxInt), 0},
		{r(-1, -1, 1, 1), 0},
	} {
		if a := rect.Area(c.r); a != c.area {
			t.Errorf("Area(%v) = %d; expected %d", c.r, a, c.area)
		}
	}
}

// P1.2
func TestEmptyAndHasAcceptRectanglesThatAreNotValid(t *testing.T) {
	whole := r(math.MinInt, math.MinInt, math.MaxInt, math.MaxInt)
	if rect.Empty(whole) || !rect.Empty(r(math.MaxInt, math.MinInt, math.MinInt, math.MaxInt)) {
		t.Error("Empty")
	}
	if !rect.Has(whole, api.Point{X: math.MinInt, Y: math.MinInt}) {
		t.Error("the least point is not in the largest rectangle")
	}
	if rect.Has(whole, api.Point{X: math.MaxInt, Y: 0}) || rect.Has(whole, api.Point{X: 0, Y: math.MaxInt}) {
		t.Error("X1 and Y1 are in the rectangle")
	}
	if rect.Has(r(5, 0, 2, 1), api.Point{X: 3, Y: 0}) {
		t.Error("a point between reversed sides is in the rectangle")
	}
}

// P1.3, P1.7
func TestIntersectAndContainsAgreeWithPoints(t *testing.T) {
	l, all := points(-2, 3), rects(-1, 2)
	for _, a := range all {
		for _, b := range all {
			common, inside := rect.Intersect(a, b), true
			for _, p := range l {
				inA, inB := rect.Has(a, p), rect.Has(b, p)
				if rect.Has(common, p) != (inA && inB) {
					t.Fatalf("Intersect(%v, %v) = %v: wrong at %v", a, b, common, p)
				}
				inside = inside && (inA || !inB)
			}
			if rect.Empty(common) && common != (api.Rect{}) {
				t.Fatalf("Intersect(%v, %v) = %v; expected the zero Rect", a, b, common)
			}
			if common != rect.Intersect(b, a) {
				t.Fatalf("Intersect(%v, %v) depends on the order", a, b)
			}
			if rect.Contains(a, b) != inside {
				t.Fatalf("Contains(%v, %v) = %v", a, b, !inside)
			}
			if !rect.Empty(b) && rect.Contains(a, b) != (common == b) {
				t.Fatalf("Contains and Intersect of %v and %v disagree", a, b)
			}
		}
	}
}

// P1.3
func TestIntersectAndContainsOfExtremes(t *testing.T) {
	whole := r(math.MinInt, math.MinInt, math.MaxInt, math.MaxInt)
	for _, a := range extremes() {
		want := a
		if rect.Empty(a) {
			want = api.Rect{}
		}
		if x := rect.Intersect(whole, a); x != want {
			t.Fatalf("Intersect(%v, %v) = %v; expected %v", whole, a, x, want)
		}
		if !rect.Contains(whole, a) {
			t.Fatalf("the largest rectangle does not contain %v", a)
		}
		if rect.Contains(a, whole) != (a == whole) {
			t.Fatalf("Contains(%v, %v) = %v", a, whole, a != whole)
		}
	}
}

// hull is Bound by its definition: the least and the greatest coordinates of the points.
func hull(l []api.Rect, grid []api.Point) api.Rect {
	var b api.Rect
	first := true
	for _, p := range grid {
		if !slices.ContainsFunc(l, func(a api.Rect) bool { return rect.Has(a, p) }) {
			continue
		}
		if first {
			b, first = r(p.X, p.Y, p.X+1, p.Y+1), false
		}
		b = r(min(b.X0, p.X), min(b.Y0, p.Y), max(b.X1, p.X+1), max(b.Y1, p.Y+1))
	}
	return b
}

// P1.4, P1.8
func TestBoundAgreesWithPoints(t *testing.T) {
	l, all := points(-2, 3), rects(-1, 2)
	for i, a := range all {
		for j, b := range all {
			got := rect.Bound([]api.Rect{a, b})
			if want := hull([]api.Rect{a, b}, l); got != want {
				t.Fatalf("Bound(%v, %v) = %v; expected %v", a, b, got, want)
			}
			c := all[(i*37+j*11)%len(all)]
			three := rect.Bound([]api.Rect{a, b, c})
			if want := hull([]api.Rect{a, b, c}, l); three != want {
				t.Fatalf("Bound(%v, %v, %v) = %v; expected %v", a, b, c, three, want)
			}
			for _, other := range [][]api.Rect{{c, b, a}, {b, a, c}, {a, b, c, got}, {got, a, b, c}, {got, c}, {three, a}} {
				if x := rect.Bound(other); x != three {
					t.Fatalf("Bound(%v) = %v; expected %v", other, x, three)
				}
			}
		}
	}
}

// P1.8
func TestBoundIsTheSmallest(t *testing.T) {
	all := rects(0, 2)
	for _, a := range all {
		for _, b := range all {
			bound := rect.Bound([]api.Rect{a, b})
			if !rect.Contains(bound, a) || !rect.Contains(bound, b) {
				t.Fatalf("Bound(%v, %v) = %v does not contain them", a, b, bound)
			}
			for _, c := range all {
				if rect.Contains(c, a) && rect.Contains(c, b) && !rect.Contains(c, bound) {
					t.Fatalf("Bound(%v, %v) = %v is not in %v", a, b, bound, c)
				}
			}
		}
	}
}

// P1.4
func TestBoundOfFewAndOfExtremes(t *testing.T) {
	whole := r(math.MinInt, math.MinInt, math.MaxInt, math.MaxInt)
	least := r(math.MinInt, math.MinInt, math.MinInt+1, math.MinInt+1)
	greatest := r(math.MaxInt-1, math.MaxInt-1, math.MaxInt, math.MaxInt)
	for _, c := range []struct {
		l    []api.Rect
		want api.Rect
	}{
		{nil, api.Rect{}},
		{[]api.Rect{}, api.Rect{}},
		{[]api.Rect{r(7, 7, 7, 9)}, api.Rect{}},
		{[]api.Rect{r(9, 9, 2, 2), r(0, 4, 4, 4)}, api.Rect{}},
		{[]api.Rect{r(-7, -3, -2, 9)}, r(-7, -3, -2, 9)},
		{[]api.Rect{r(7, 7, 7, 9), r(3, 3, 4, 4)}, r(3, 3, 4, 4)},
		{[]api.Rect{r(3, 3, 4, 4), r(9, 9, 2, 2)}, r(3, 3, 4, 4)},
		{[]api.Rect{least, greatest}, whole},
		{[]api.Rect{greatest, least, r(0, 0, 0, 0)}, whole},
	} {
		if b := rect.Bound(c.l); b != c.want {
			t.Errorf("Bound(%v) = %v; expected %v", c.l, b, c.want)
		}
	}
}

// P1.5, P1.9
func TestReduceKeepsTheMultiples(t *testing.T) {
	l := points(0, 8)
	for _, a := range rects(0, 6) {
		if !rect.Valid(a) {
			continue
		}
		for dx := 1; dx <= 4; dx++ {
			for dy := 1; dy <= 4; dy++ {
				small := rect.Reduce(a, dx, dy)
				if want := r((a.X0+dx-1)/dx, (a.Y0+dy-1)/dy, (a.X1+dx-1)/dx, (a.Y1+dy-1)/dy); small != want {
					t.Fatalf("Reduce(%v, %d, %d) = %v; expected %v", a, dx, dy, small, want)
				}
				for _, p := range l {
					if rect.Has(small, p) != rect.Has(a, api.Point{X: p.X * dx, Y: p.Y * dy}) {
						t.Fatalf("Reduce(%v, %d, %d) = %v: wrong at %v", a, dx, dy, small, p)
					}
				}
			}
		}
	}
}

// P1.9
func TestReduceTwice(t *testing.T) {
	factors := []int{1, 2, 3, 5, 16, 64}
	for _, a := range []api.Rect{r(0, 0, 4096, 4096), r(1, 63, 65, 4095), r(4096, 0, 4096, 1), r(3, 0, 8, 5), r(127, 129, 1000, 1000)} {
		for _, x1 := range factors {
			for _, x2 := range factors {
				twice := rect.Reduce(rect.Reduce(a, x1, 64), x2, 64)
				if once := rect.Reduce(a, x1*x2, 4096); twice != once {
					t.Errorf("%v reduced by %d and %d = %v; by their product %v", a, x1, x2, twice, once)
				}
			}
		}
	}
}

// P1.5
func TestReduceOfInvalidArguments(t *testing.T) {
	a := r(3, 0, 8, 5)
	for _, c := range []struct {
		r      api.Rect
		dx, dy int
		want   api.Rect
	}{
		{a, api.MaxSide, api.MaxSide, r(1, 0, 1, 1)},
		{a, 0, 1, api.Rect{}},
		{a, 1, 0, api.Rect{}},
		{a, -1, 1, api.Rect{}},
		{a, 1, math.MinInt, api.Rect{}},
		{a, api.MaxSide + 1, 1, api.Rect{}},
		{a, 1, api.MaxSide + 1, api.Rect{}},
		{a, math.MaxInt, math.MaxInt, api.Rect{}},
		{r(-1, 0, 8, 5), 1, 1, api.Rect{}},
		{r(3, 0, 8, api.MaxSide+1), 2, 2, api.Rect{}},
		{r(8, 0, 3, 5), 1, 1, api.Rect{}},
	} {
		if x := rect.Reduce(c.r, c.dx, c.dy); x != c.want {
			t.Errorf("Reduce(%v, %d, %d) = %v; expected %v", c.r, c.dx, c.dy, x, c.want)
		}
	}
}

// partition is Cells by its definition, for small rectangles: the parts in all cells that could be touched.
func partition(a api.Rect, w, h int) []api.Rect {
	var l []api.Rect
	for j := range 10 {
		for i := range 10 {
			part := rect.Intersect(a, r(i*w, j*h, (i+1)*w, (j+1)*h))
			if !rect.Empty(part) {
				l = append(l, part)
			}
		}
	}
	return l
}

// P1.6
func TestCellsAreTheParts(t *testing.T) {
	for _, a := range rects(0, 6) {
		for w := 1; w <= 4; w++ {
			for h := 1; h <= 4; h++ {
				var want []api.Rect
				if rect.Valid(a) {
					want = partition(a, w, h)
				}
				if l := rect.Cells(a, w, h); !slices.Equal(l, want) {
					t.Fatalf("Cells(%v, %d, %d) = %v; expected %v", a, w, h, l, want)
				}
			}
		}
	}
}

// P1.10
func TestCellsDivideTheRectangle(t *testing.T) {
	for _, c := range []struct {
		r    api.Rect
		w, h int
	}{
		{r(3, 0, 8, 5), 4, 4},
		{r(1, 2, 40, 31), 7, 5},
		{r(16, 16, 32, 32), 16, 16},
		{r(0, 0, 50, 3), 1, 100},
		{r(5, 5, 6, 6), 3, 2},
	} {
		covered, area := map[api.Point]int{}, 0
		for _, cell := range rect.Cells(c.r, c.w, c.h) {
			area += rect.Area(cell)
			if cell.X1-cell.X0 > c.w || cell.Y1-cell.Y0 > c.h {
				t.Errorf("Cells(%v, %d, %d): %v is too large", c.r, c.w, c.h, cell)
			}
			for _, p := range points(0, 60) {
				if rect.Has(cell, p) {
					covered[p]++
				}
			}
		}
		for _, p := range points(0, 60) {
			if n := covered[p]; (n == 1) != rect.Has(c.r, p) || n > 1 {
				t.Errorf("Cells(%v, %d, %d): %v is in %d cells", c.r, c.w, c.h, p, n)
			}
		}
		if area != rect.Area(c.r) {
			t.Errorf("Cells(%v, %d, %d): the areas have the sum %d", c.r, c.w, c.h, area)
		}
	}
}

// P1.6
func TestCellsAtTheLimits(t *testing.T) {
	whole := r(0, 0, api.MaxSide, api.MaxSide)
	for _, c := range []struct {
		r    api.Rect
		w, h int
		n    int
	}{
		{r(0, 0, 256, 256), 1, 1, api.MaxPackets},
		{r(0, 0, api.MaxSide, 16), 1, 1, api.MaxPackets},
		{whole, 16, 16, api.MaxPackets},
		{whole, 1, 256, api.MaxPackets},
		{r(0, 0, 331, 198), 1, 1, 0}, // 65538, the least product beyond the limit
		{whole, 15, 16, 0},
		{whole, 1, 1, 0},
		{r(0, 0, api.MaxSide, 17), 1, 1, 0},
		{whole, api.MaxSide, api.MaxSide, 1},
		{whole, api.MaxSide - 1, api.MaxSide, 2},
		{whole, math.MaxInt, math.MaxInt, 1},
		{whole, math.MaxInt, 1, api.MaxSide},
		{r(api.MaxSide-1, api.MaxSide-1, api.MaxSide, api.MaxSide), math.MaxInt, math.MaxInt - 1, 1},
		{r(3, 3, 3, 3), 1, 1, 0},
		{r(3, 0, 3, 5), 2, 2, 0},
		{r(3, 0, 8, 0), 2, 2, 0},
		{r(-3, 0, 8, 5), 4, 4, 0},
		{r(3, 0, 8, api.MaxSide+1), 4, 4, 0},
		{r(8, 5, 3, 0), 4, 4, 0},
		{r(3, 0, 8, 5), 0, 4, 0},
		{r(3, 0, 8, 5), 4, 0, 0},
		{r(3, 0, 8, 5), -4, 4, 0},
		{r(3, 0, 8, 5), 4, math.MinInt, 0},
	} {
		if l := rect.Cells(c.r, c.w, c.h); len(l) != c.n {
			t.Errorf("Cells(%v, %d, %d) has %d cells; expected %d", c.r, c.w, c.h, len(l), c.n)
		}
	}
	if l := rect.Cells(whole, math.MaxInt, math.MaxInt); !slices.Equal(l, []api.Rect{whole}) {
		t.Errorf("one cell of the largest size = %v", l)
	}
}

// R6
func TestArgumentsAreKeptApart(t *testing.T) {
	behind := []api.Rect{r(3, 3, 4, 4), r(7, 7, 7, 9), r(1, 5, 2, 6), r(9, 9, 9, 9)}
	before := slices.Clone(behind)
	rect.Bound(behind[:3])
	if !slices.Equal(behind, before) {
		t.Errorf("Bound changes its argument to %v", behind)
	}
}

// R1
func TestNothingPanicsForExtremes(t *testing.T) {
	numbers := []int{math.MinInt, -1, 0, 1, api.MaxSide, math.MaxInt}
	all := extremes()
	for _, a := range all {
		rect.Bound([]api.Rect{a, all[0], all[len(all)-1], a})
		for _, n := range numbers {
			rect.Reduce(a, n, 1)
			rect.Reduce(a, 1, n)
			rect.Cells(a, n, api.MaxSide)
			rect.Cells(a, api.MaxSide, n)
			rect.Has(a, api.Point{X: n, Y: -n})
		}
	}
}

// The examples of the chapter, and example 1 of the document.
func TestExamples(t *testing.T) {
	if a := r(2, 3, 2, 9); !rect.Valid(a) || !rect.Empty(a) || rect.Area(a) != 0 {
		t.Error("(2, 3) to (2, 9)")
	}
	if a := r(5, 0, 2, 1); rect.Valid(a) || !rect.Empty(a) {
		t.Error("(5, 0) to (2, 1)")
	}
	if x := rect.Intersect(r(0, 0, 4, 4), r(2, 1, 9, 3)); x != r(2, 1, 4, 3) {
		t.Errorf("Intersect = %v", x)
	}
	if x := rect.Intersect(r(4, 0, 5, 4), r(0, 0, 4, 4)); x != (api.Rect{}) {
		t.Errorf("Intersect of neighbors = %v", x)
	}
	if x := rect.Bound([]api.Rect{r(3, 3, 4, 4), r(7, 7, 7, 9), r(1, 5, 2, 6)}); x != r(1, 3, 4, 6) {
		t.Errorf("Bound = %v", x)
	}
	if x := rect.Reduce(r(3, 0, 8, 5), 2, 2); x != r(2, 0, 4, 3) {
		t.Errorf("Reduce = %v", x)
	}
	want := []api.Rect{r(3, 0, 4, 4), r(4, 0, 8, 4), r(3, 4, 4, 5), r(4, 4, 8, 5)}
	if l := rect.Cells(r(3, 0, 8, 5), 4, 4); !slices.Equal(l, want) {
		t.Errorf("Cells = %v", l)
	}
}
