// Package plane is layer 2: planes of samples (shared/doc/02-plane.md).
package plane

import (
	"slices"

	"wavelet/api"
	"wavelet/rect"
)

// New returns a plane of zeros.
func New(r api.Rect) (api.Plane, api.Errno) {
	if !rect.Valid(r) {
		return api.Plane{}, api.ErrRange
	}
	if rect.Area(r) > api.MaxArea {
		return api.Plane{}, api.ErrLimit
	}
	return api.Plane{Rect: r, Data: make([]int, rect.Area(r))}, api.OK
}

// Valid reports whether a plane has a valid rectangle that is not too large, and a sample for each of its points.
func Valid(p api.Plane) bool {
	area := rect.Area(p.Rect)
	return rect.Valid(p.Rect) && area <= api.MaxArea && len(p.Data) == area
}

// At returns the sample of a point.
func At(p api.Plane, x, y int) (int, bool) {
	if !Valid(p) || !rect.Has(p.Rect, api.Point{X: x, Y: y}) {
		return 0, false
	}
	return p.Data[index(p, x, y)], true
}

// width returns the number of columns of a valid plane.
func width(p api.Plane) int {
	return p.Rect.X1 - p.Rect.X0
}

// index returns where the sample of a point of a valid plane is in its data.
func index(p api.Plane, x, y int) int {
	return (y-p.Rect.Y0)*width(p) + (x - p.Rect.X0)
}

// Crop returns the part of a plane in a rectangle.
func Crop(p api.Plane, r api.Rect) (api.Plane, api.Errno) {
	if !Valid(p) {
		return api.Plane{}, api.ErrArg
	}
	if !rect.Valid(r) || !rect.Contains(p.Rect, r) {
		return api.Plane{}, api.ErrRange
	}
	part := api.Plane{Rect: r, Data: make([]int, rect.Area(r))}
	overlay(part, p)
	return part, api.OK
}

// Paste returns dst with the samples of src where they overlap.
func Paste(dst, src api.Plane) (api.Plane, api.Errno) {
	if !Valid(dst) || !Valid(src) {
		return api.Plane{}, api.ErrArg
	}
	pasted := api.Plane{Rect: dst.Rect, Data: slices.Clone(dst.Data)}
	overlay(pasted, src)
	return pasted, api.OK
}

// overlay copies the samples of src into dst at the points of both.
func overlay(dst, src api.Plane) {
	common := rect.Intersect(dst.Rect, src.Rect)
	n := common.X1 - common.X0
	for y := common.Y0; y < common.Y1; y++ {
		to, from := index(dst, common.X0, y), index(src, common.X0, y)
		copy(dst.Data[to:to+n], src.Data[from:from+n])
	}
}

// Clip returns a plane with its samples limited to a range.
func Clip(p api.Plane, low, high int) (api.Plane, api.Errno) {
	if !Valid(p) {
		return api.Plane{}, api.ErrArg
	}
	if low > high {
		return api.Plane{}, api.ErrRange
	}
	clipped := api.Plane{Rect: p.Rect, Data: make([]int, len(p.Data))}
	for i, v := range p.Data {
		clipped.Data[i] = min(max(v, low), high)
	}
	return clipped, api.OK
}

// Limits returns the least and the greatest sample.
func Limits(p api.Plane) (low, high int, ok bool) {
	if !Valid(p) || len(p.Data) == 0 {
		return 0, 0, false
	}
	return slices.Min(p.Data), slices.Max(p.Data), true
}

// Row returns the samples of a row, by ascending x.
func Row(p api.Plane, y int) ([]int, bool) {
	if !Valid(p) || y < p.Rect.Y0 || y >= p.Rect.Y1 {
		return nil, false
	}
	row := make([]int, width(p))
	copy(row, p.Data[index(p, p.Rect.X0, y):])
	return row, true
}

// Column returns the samples of a column, by ascending y.
func Column(p api.Plane, x int) ([]int, bool) {
	if !Valid(p) || x < p.Rect.X0 || x >= p.Rect.X1 {
		return nil, false
	}
	column := make([]int, p.Rect.Y1-p.Rect.Y0)
	for i := range column {
		column[i] = p.Data[index(p, x, p.Rect.Y0+i)]
	}
	return column, true
}

// Same reports whether two planes have the same rectangle and the same data.
func Same(a, b api.Plane) bool {
	return a.Rect == b.Rect && slices.Equal(a.Data, b.Data)
}
