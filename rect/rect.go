// Package rect is layer 1: rectangles on the reference grid (shared/doc/01-rect.md).
package rect

import "wavelet/api"

// CeilDiv returns a divided by b, rounded toward plus infinity; 0 if b < 1.
func CeilDiv(a, b int) int {
	if b < 1 {
		return 0
	}
	q := a / b
	// The division of the language rounds toward zero, which is down only if a is positive.
	if a%b > 0 {
		q++
	}
	return q
}

// FloorDiv returns a divided by b, rounded toward minus infinity; 0 if b < 1.
func FloorDiv(a, b int) int {
	if b < 1 {
		return 0
	}
	q := a / b
	if a%b < 0 {
		q--
	}
	return q
}

// Valid reports whether a rectangle lies on the grid.
func Valid(r api.Rect) bool {
	return 0 <= r.X0 && r.X0 <= r.X1 && r.X1 <= api.MaxSide &&
		0 <= r.Y0 && r.Y0 <= r.Y1 && r.Y1 <= api.MaxSide
}

// Area returns the number of points of a rectangle, or 0 if it is not valid.
func Area(r api.Rect) int {
	if !Valid(r) {
		return 0
	}
	return (r.X1 - r.X0) * (r.Y1 - r.Y0)
}

// Empty reports whether a rectangle has no points.
func Empty(r api.Rect) bool {
	return r.X0 >= r.X1 || r.Y0 >= r.Y1
}

// Has reports whether a point lies in a rectangle.
func Has(r api.Rect, p api.Point) bool {
	return r.X0 <= p.X && p.X < r.X1 && r.Y0 <= p.Y && p.Y < r.Y1
}

// Contains reports whether all points of b lie in a.
func Contains(a, b api.Rect) bool {
	return Empty(b) || Intersect(a, b) == b
}

// Intersect returns the rectangle of the common points, or the zero Rect if there are none.
func Intersect(a, b api.Rect) api.Rect {
	r := api.Rect{
		X0: max(a.X0, b.X0), Y0: max(a.Y0, b.Y0),
		X1: min(a.X1, b.X1), Y1: min(a.Y1, b.Y1),
	}
	if Empty(r) {
		return api.Rect{}
	}
	return r
}

// Bound returns the smallest rectangle that contains several ones, or the zero Rect if they have no points.
func Bound(l []api.Rect) api.Rect {
	var all api.Rect
	for _, r := range l {
		all = join(all, r)
	}
	return all
}

// join returns the smallest rectangle that contains two. The first one has points or is the zero Rect.
func join(a, b api.Rect) api.Rect {
	if Empty(b) {
		return a
	}
	if a == (api.Rect{}) {
		return b
	}
	return api.Rect{
		X0: min(a.X0, b.X0), Y0: min(a.Y0, b.Y0),
		X1: max(a.X1, b.X1), Y1: max(a.Y1, b.Y1),
	}
}

// Reduce divides the coordinates of a rectangle, rounding up. It returns the zero Rect if the rectangle or a divisor is not valid.
func Reduce(r api.Rect, dx, dy int) api.Rect {
	if !Valid(r) || !divisor(dx) || !divisor(dy) {
		return api.Rect{}
	}
	return api.Rect{
		X0: CeilDiv(r.X0, dx), Y0: CeilDiv(r.Y0, dy),
		X1: CeilDiv(r.X1, dx), Y1: CeilDiv(r.Y1, dy),
	}
}

func divisor(d int) bool {
	return 1 <= d && d <= api.MaxSide
}

// Cells returns the parts of a rectangle in the cells of a grid of cells of w by h points, row by row. It returns nothing if they are more than MaxPackets.
func Cells(r api.Rect, w, h int) []api.Rect {
	if !Valid(r) || Empty(r) || w < 1 || h < 1 {
		return nil
	}
	// No corner overflows: a cell that is not the first one begins within the grid, so that cells are no wider than the grid.
	touched := api.Rect{
		X0: FloorDiv(r.X0, w), Y0: FloorDiv(r.Y0, h),
		X1: CeilDiv(r.X1, w), Y1: CeilDiv(r.Y1, h),
	}
	count := Area(touched)
	if count > api.MaxPackets {
		return nil
	}
	parts := make([]api.Rect, 0, count)
	for j := touched.Y0; j < touched.Y1; j++ {
		for i := touched.X0; i < touched.X1; i++ {
			cell := api.Rect{X0: i * w, Y0: j * h, X1: (i + 1) * w, Y1: (j + 1) * h}
			parts = append(parts, Intersect(r, cell))
		}
	}
	return parts
}
