package plane_test

import (
	"math"
	"slices"
	"testing"

	"wavelet/api"
	"wavelet/plane"
	"wavelet/rect"
)

func r(x0, y0, x1, y1 int) api.Rect { return api.Rect{X0: x0, Y0: y0, X1: x1, Y1: y1} }

func pl(rc api.Rect, data ...int) api.Plane { return api.Plane{Rect: rc, Data: data} }

// numbered returns a plane whose samples all differ, from first on.
func numbered(rc api.Rect, first int) api.Plane {
	p := pl(rc)
	for i := range rect.Area(rc) {
		p.Data = append(p.Data, first+i)
	}
	return p
}

// parts returns all valid rectangles, also empty ones, with corners from (x0, y0) to (x1, y1).
func parts(x0, y0, x1, y1 int) []api.Rect {
	var l []api.Rect
	for a := x0; a <= x1; a++ {
		for b := y0; b <= y1; b++ {
			for c := a; c <= x1; c++ {
				for d := b; d <= y1; d++ {
					l = append(l, r(a, b, c, d))
				}
			}
		}
	}
	return l
}

// invalid returns planes that are not valid, each for another reason.
func invalid() []api.Plane {
	return []api.Plane{
		pl(r(0, 0, 2, 2), 1, 2, 3),
		pl(r(0, 0, 2, 2), 1, 2, 3, 4, 5),
		pl(r(0, 0, 2, 2)),
		pl(r(3, 3, 3, 4), 1),
		pl(r(2, 0, 0, 2)),
		pl(r(2, 0, 0, 2), 1, 2, 3, 4),
		pl(r(-1, 0, 0, 1), 1),
		pl(r(0, 0, 1, api.MaxSide+1)),
		pl(r(0, -2, 0, -1)),
		pl(r(math.MinInt, math.MinInt, math.MaxInt, math.MaxInt), 1),
		{Rect: r(0, 0, 1024, 1025), Data: make([]int, 1024*1025)},
	}
}

func zero(p api.Plane) bool { return p.Rect == (api.Rect{}) && len(p.Data) == 0 }

// P2.1
func TestNew(t *testing.T) {
	for _, c := range []struct {
		r api.Rect
		e api.Errno
	}{
		{r(0, 0, 0, 0), api.OK},
		{r(1, 2, 4, 7), api.OK},
		{r(4096, 4096, 4096, 4096), api.OK},
		{r(7, 0, 7, 4096), api.OK},
		{r(0, 0, 1024, 1024), api.OK},
		{r(3072, 3072, 4096, 4096), api.OK},
		{r(0, 0, 4096, 256), api.OK},
		{r(0, 0, 4096, 257), api.ErrLimit},
		{r(0, 0, 1025, 1024), api.ErrLimit},
		{r(0, 0, 4096, 4096), api.ErrLimit},
		{r(0, 0, 4097, 4096), api.ErrRange},
		{r(0, 0, 4097, 0), api.ErrRange},
		{r(-1, 0, 1, 1), api.ErrRange},
		{r(2, 0, 1, 1), api.ErrRange},
		{r(0, math.MinInt, math.MaxInt, 1), api.ErrRange},
	} {
		p, e := plane.New(c.r)
		if e != c.e {
			t.Errorf("New(%v): error %d; expected %d", c.r, e, c.e)
		}
		if e != api.OK && !zero(p) {
			t.Errorf("New(%v) returns a plane with an error", c.r)
		}
		if e == api.OK && (p.Rect != c.r || len(p.Data) != rect.Area(c.r) || !plane.Valid(p)) {
			t.Errorf("New(%v) = %v with %d samples", c.r, p.Rect, len(p.Data))
		}
		if slices.ContainsFunc(p.Data, func(v int) bool { return v != 0 }) {
			t.Errorf("New(%v) has samples that are not 0", c.r)
		}
	}
}

// P2.1
func TestValid(t *testing.T) {
	for _, p := range invalid() {
		if plane.Valid(p) {
			t.Errorf("Valid: the plane %v with %d samples", p.Rect, len(p.Data))
		}
	}
	for _, p := range []api.Plane{
		{},
		pl(r(2, 0, 2, 2)),
		pl(r(0, 0, 2, 2), math.MinInt, math.MaxInt, 0, -1),
		{Rect: r(0, 0, 1024, 1024), Data: make([]int, api.MaxArea)},
		{Rect: r(0, 4096, 4096, 4096), Data: []int{}},
	} {
		if !plane.Valid(p) {
			t.Errorf("not Valid: the plane %v with %d samples", p.Rect, len(p.Data))
		}
	}
}

// P2.2, P2.8
func TestAtRowAndColumnAgree(t *testing.T) {
	p := numbered(r(3, 1, 7, 4), 50)
	var joined []int
	for y := 1; y < 4; y++ {
		row, ok := plane.Row(p, y)
		if !ok || len(row) != 4 {
			t.Fatalf("Row(%d) = %v, %v", y, row, ok)
		}
		joined = append(joined, row...)
		for x := 3; x < 7; x++ {
			column, ok := plane.Column(p, x)
			if !ok || len(column) != 3 {
				t.Fatalf("Column(%d) = %v, %v", x, column, ok)
			}
			v, ok := plane.At(p, x, y)
			if want := 50 + (y-1)*4 + x - 3; !ok || v != want || row[x-3] != want || column[y-1] != want {
				t.Errorf("(%d, %d): At %d, %v, Row %d, Column %d; expected %d", x, y, v, ok, row[x-3], column[y-1], want)
			}
		}
	}
	if !slices.Equal(joined, p.Data) {
		t.Errorf("the rows are %v; expected %v", joined, p.Data)
	}
}

// P2.2
func TestReadingBeyondThePlane(t *testing.T) {
	p := numbered(r(3, 1, 7, 4), 50)
	for _, c := range [][2]int{{2, 1}, {7, 1}, {3, 0}, {3, 4}, {4, 4}, {0, 2}, {-3, -1}, {math.MinInt, 2}, {4, math.MaxInt}} {
		if v, ok := plane.At(p, c[0], c[1]); v != 0 || ok {
			t.Errorf("At(%d, %d) = %d, %v", c[0], c[1], v, ok)
		}
	}
	for _, n := range []int{math.MinInt, -1, 0, 7, math.MaxInt} {
		if l, ok := plane.Row(p, n); len(l) != 0 || ok {
			t.Errorf("Row(%d) = %v, %v", n, l, ok)
		}
		if l, ok := plane.Column(p, n); len(l) != 0 || ok {
			t.Errorf("Column(%d) = %v, %v", n, l, ok)
		}
	}
	if _, ok := plane.Row(p, 4); ok {
		t.Error("there is a row 4")
	}
	if _, ok := plane.Column(p, 2); ok {
		t.Error("there is a column 2")
	}
}

// P2.2
func TestReadingInvalidPlanes(t *testing.T) {
	for _, p := range invalid() {
		for n := -2; n < 4; n++ {
			if v, ok := plane.At(p, n, n); v != 0 || ok {
				t.Errorf("%v: At(%d, %d) = %d, %v", p.Rect, n, n, v, ok)
			}
			if l, ok := plane.Row(p, n); len(l) != 0 || ok {
				t.Errorf("%v: Row(%d) = %v, %v", p.Rect, n, l, ok)
			}
			if l, ok := plane.Column(p, n); len(l) != 0 || ok {
				t.Errorf("%v: Column(%d) = %v, %v", p.Rect, n, l, ok)
			}
		}
	}
}

// P2.2
func TestRowsAndColumnsWithoutSamples(t *testing.T) {
	rows, columns := pl(r(3, 1, 3, 4)), pl(r(3, 1, 7, 1))
	for y := 0; y < 6; y++ {
		if l, ok := plane.Row(rows, y); len(l) != 0 || ok != (y >= 1 && y < 4) {
			t.Errorf("Row(%d) of a plane without columns = %v, %v", y, l, ok)
		}
		if l, ok := plane.Row(columns, y); len(l) != 0 || ok {
			t.Errorf("Row(%d) of a plane without rows = %v, %v", y, l, ok)
		}
	}
	for x := 0; x < 9; x++ {
		if l, ok := plane.Column(columns, x); len(l) != 0 || ok != (x >= 3 && x < 7) {
			t.Errorf("Column(%d) of a plane without rows = %v, %v", x, l, ok)
		}
		if l, ok := plane.Column(rows, x); len(l) != 0 || ok {
			t.Errorf("Column(%d) of a plane without columns = %v, %v", x, l, ok)
		}
	}
}

// P2.3
func TestCropHasTheSamples(t *testing.T) {
	p := numbered(r(3, 1, 7, 4), 50)
	for _, part := range parts(2, 0, 8, 5) {
		q, e := plane.Crop(p, part)
		if !rect.Empty(part) && !rect.Contains(p.Rect, part) {
			if e != api.ErrRange || !zero(q) {
				t.Fatalf("Crop(%v) = %v, %d; expected ErrRange", part, q, e)
			}
			continue
		}
		if e != api.OK || q.Rect != part || len(q.Data) != rect.Area(part) {
			t.Fatalf("Crop(%v) = %v, %d", part, q, e)
		}
		i := 0
		for y := part.Y0; y < part.Y1; y++ {
			for x := part.X0; x < part.X1; x++ {
				if v, _ := plane.At(p, x, y); q.Data[i] != v {
					t.Fatalf("Crop(%v) = %v: wrong at (%d, %d)", part, q, x, y)
				}
				i++
			}
		}
	}
}

// P2.3
func TestCropToEmptyRectangles(t *testing.T) {
	for _, p := range []api.Plane{{}, pl(r(3, 1, 3, 4)), numbered(r(3, 1, 7, 4), 50)} {
		for _, part := range []api.Rect{{}, r(9, 9, 9, 12), r(9, 9, 12, 9), r(4, 0, 4, 4096), r(4096, 4096, 4096, 4096), r(0, 2, 4096, 2)} {
			if q, e := plane.Crop(p, part); e != api.OK || !plane.Same(q, pl(part)) {
				t.Errorf("Crop(%v) of %v = %v, %d", part, p.Rect, q, e)
			}
		}
	}
}

// P2.3
func TestCropErrors(t *testing.T) {
	p := numbered(r(3, 1, 7, 4), 50)
	for _, part := range []api.Rect{r(-1, 1, 4, 2), r(5, 1, 4, 2), r(-2, -2, -2, -2), r(4097, 0, 4097, 0), r(6, 3, 4, 2), r(math.MinInt, 0, math.MaxInt, 4), r(0, 0, 4096, 4096)} {
		if q, e := plane.Crop(p, part); e != api.ErrRange || !zero(q) {
			t.Errorf("Crop(%v) = %v, %d; expected ErrRange", part, q, e)
		}
	}
	for _, bad := range invalid() {
		for _, part := range []api.Rect{{}, r(0, 0, 1, 1), bad.Rect, r(-1, 0, 0, 0)} {
			if q, e := plane.Crop(bad, part); e != api.ErrArg || !zero(q) {
				t.Errorf("Crop(%v) of %v: error %d; expected ErrArg", part, bad.Rect, e)
			}
		}
	}
}

// P2.4, P2.7
func TestPasteHasTheSamplesOfBoth(t *testing.T) {
	dst := numbered(r(3, 1, 7, 4), 50)
	for _, part := range parts(1, 0, 8, 5) {
		src := numbered(part, -90)
		q, e := plane.Paste(dst, src)
		if e != api.OK || q.Rect != dst.Rect || len(q.Data) != len(dst.Data) {
			t.Fatalf("Paste of %v = %v, %d", part, q, e)
		}
		for y := 1; y < 4; y++ {
			for x := 3; x < 7; x++ {
				want, ok := plane.At(src, x, y)
				if !ok {
					want, _ = plane.At(dst, x, y)
				}
				if v, _ := plane.At(q, x, y); v != want {
					t.Fatalf("Paste of %v: %d at (%d, %d); expected %d", part, v, x, y, want)
				}
			}
		}
		if !rect.Contains(dst.Rect, part) {
			continue
		}
		if back, e := plane.Crop(q, part); e != api.OK || !plane.Same(back, src) {
			t.Fatalf("Crop(%v) of the plane with the part = %v, %d", part, back, e)
		}
	}
}

// P2.4
func TestPasteErrors(t *testing.T) {
	p := numbered(r(0, 0, 2, 2), 1)
	for _, bad := range invalid() {
		if q, e := plane.Paste(p, bad); e != api.ErrArg || !zero(q) {
			t.Errorf("Paste of %v: error %d; expected ErrArg", bad.Rect, e)
		}
		if q, e := plane.Paste(bad, p); e != api.ErrArg || !zero(q) {
			t.Errorf("Paste into %v: error %d; expected ErrArg", bad.Rect, e)
		}
		if q, e := plane.Paste(bad, bad); e != api.ErrArg || !zero(q) {
			t.Errorf("Paste of %v into itself: error %d; expected ErrArg", bad.Rect, e)
		}
	}
}

// P2.7
func TestCropAndPasteUndoEachOther(t *testing.T) {
	p := numbered(r(3, 1, 7, 4), 50)
	if q, e := plane.Crop(p, p.Rect); e != api.OK || !plane.Same(q, p) {
		t.Errorf("Crop of the whole = %v, %d", q, e)
	}
	for _, part := range parts(3, 1, 7, 4) {
		q, _ := plane.Crop(p, part)
		if back, e := plane.Paste(p, q); e != api.OK || !plane.Same(back, p) {
			t.Errorf("Paste of Crop(%v) = %v, %d", part, back, e)
		}
		for _, smaller := range parts(part.X0, part.Y0, part.X1, part.Y1) {
			once, _ := plane.Crop(p, smaller)
			if twice, e := plane.Crop(q, smaller); e != api.OK || !plane.Same(once, twice) {
				t.Errorf("Crop(%v) of Crop(%v) = %v, %d; expected %v", smaller, part, twice, e, once)
			}
		}
	}
}

// P2.5
func TestClip(t *testing.T) {
	rc := r(3, 1, 5, 4)
	p := pl(rc, math.MinInt, -5, 0, 3, 9, math.MaxInt)
	for _, c := range []struct {
		low, high int
		want      api.Plane
	}{
		{math.MinInt, math.MaxInt, p},
		{-5, 9, pl(rc, -5, -5, 0, 3, 9, 9)},
		{0, 0, pl(rc, 0, 0, 0, 0, 0, 0)},
		{1, 3, pl(rc, 1, 1, 1, 3, 3, 3)},
		{-4, 8, pl(rc, -4, -4, 0, 3, 8, 8)},
		{math.MaxInt, math.MaxInt, pl(rc, math.MaxInt, math.MaxInt, math.MaxInt, math.MaxInt, math.MaxInt, math.MaxInt)},
		{math.MinInt, math.MinInt, pl(rc, math.MinInt, math.MinInt, math.MinInt, math.MinInt, math.MinInt, math.MinInt)},
	} {
		q, e := plane.Clip(p, c.low, c.high)
		if e != api.OK || !plane.Same(q, c.want) {
			t.Errorf("Clip by %d and %d = %v, %d; expected %v", c.low, c.high, q, e, c.want)
		}
	}
	if q, e := plane.Clip(pl(r(3, 1, 3, 4)), 1, 2); e != api.OK || !plane.Same(q, pl(r(3, 1, 3, 4))) {
		t.Errorf("Clip of no samples = %v, %d", q, e)
	}
}

// P2.5
func TestClipErrors(t *testing.T) {
	p := numbered(r(3, 1, 7, 4), 50)
	for _, c := range [][2]int{{3, 2}, {math.MaxInt, math.MinInt}, {0, -1}} {
		if q, e := plane.Clip(p, c[0], c[1]); e != api.ErrRange || !zero(q) {
			t.Errorf("Clip by %d and %d = %v, %d; expected ErrRange", c[0], c[1], q, e)
		}
	}
	if q, e := plane.Clip(pl(r(2, 2, 2, 2)), 1, 0); e != api.ErrRange || !zero(q) {
		t.Errorf("Clip of no samples by 1 and 0 = %v, %d; expected ErrRange", q, e)
	}
	for _, bad := range invalid() {
		for _, c := range [][2]int{{2, 3}, {3, 2}} {
			if q, e := plane.Clip(bad, c[0], c[1]); e != api.ErrArg || !zero(q) {
				t.Errorf("Clip of %v by %d and %d: error %d; expected ErrArg", bad.Rect, c[0], c[1], e)
			}
		}
	}
}

// P2.5
func TestLimits(t *testing.T) {
	for _, c := range []struct {
		p         api.Plane
		low, high int
	}{
		{pl(r(0, 0, 1, 1), 7), 7, 7},
		{pl(r(0, 0, 1, 1), -7), -7, -7},
		{pl(r(3, 1, 5, 3), 2, 9, -4, 3), -4, 9},
		{pl(r(3, 1, 5, 3), 9, 5, 6, 5), 5, 9},
		{pl(r(3, 1, 5, 2), math.MaxInt, math.MinInt), math.MinInt, math.MaxInt},
	} {
		if low, high, ok := plane.Limits(c.p); low != c.low || high != c.high || !ok {
			t.Errorf("Limits(%v) = %d, %d, %v", c.p, low, high, ok)
		}
	}
	for _, p := range append(invalid(), api.Plane{}, pl(r(3, 1, 3, 4)), pl(r(3, 1, 7, 1))) {
		if low, high, ok := plane.Limits(p); low != 0 || high != 0 || ok {
			t.Errorf("Limits of %v = %d, %d, %v", p.Rect, low, high, ok)
		}
	}
}

// P2.9
func TestClipAndLimits(t *testing.T) {
	p := pl(r(3, 1, 6, 3), -3, 8, 0, 2, 8, -1)
	least, greatest, _ := plane.Limits(p)
	for low := -6; low <= 12; low++ {
		for high := low; high <= 12; high++ {
			once, e := plane.Clip(p, low, high)
			if e != api.OK {
				t.Fatalf("Clip by %d and %d: error %d", low, high, e)
			}
			if a, b, ok := plane.Limits(once); !ok || a < low || b > high {
				t.Errorf("Clip by %d and %d has the limits %d and %d", low, high, a, b)
			}
			if twice, e := plane.Clip(once, low, high); e != api.OK || !plane.Same(once, twice) {
				t.Errorf("Clip by %d and %d, twice, = %v, %d", low, high, twice, e)
			}
			if low <= least && high >= greatest && !plane.Same(once, p) {
				t.Errorf("Clip by %d and %d = %v", low, high, once)
			}
		}
	}
}

// P2.6
func TestSame(t *testing.T) {
	p := pl(r(0, 0, 2, 2), 1, 2, 3, 4)
	for _, c := range []struct {
		a, b api.Plane
		same bool
	}{
		{p, pl(r(0, 0, 2, 2), 1, 2, 3, 4), true},
		{p, pl(r(0, 0, 2, 2), 1, 2, 3, 5), false},
		{p, pl(r(0, 0, 2, 2), 0, 2, 3, 4), false},
		{p, pl(r(0, 0, 2, 2), 1, 2, 3), false},
		{p, pl(r(0, 0, 2, 2), 1, 2, 3, 4, 5), false},
		{p, pl(r(0, 0, 4, 1), 1, 2, 3, 4), false},
		{p, pl(r(1, 0, 3, 2), 1, 2, 3, 4), false},
		{p, pl(r(0, 1, 2, 3), 1, 2, 3, 4), false},
		{api.Plane{}, api.Plane{Data: []int{}}, true},
		{pl(r(2, 2, 2, 2)), pl(r(3, 3, 3, 3)), false},
		{pl(r(5, 5, 2, 2), 1), pl(r(5, 5, 2, 2), 1), true},
		{pl(r(5, 5, 2, 2), 1), pl(r(5, 5, 2, 1), 1), false},
	} {
		if plane.Same(c.a, c.b) != c.same || plane.Same(c.b, c.a) != c.same {
			t.Errorf("Same(%v, %v) is not %v", c.a, c.b, c.same)
		}
	}
}

// results returns the samples of all results that are computed from p.
func results(p api.Plane) [][]int {
	part := r(4, 1, 6, 3)
	crop, _ := plane.Crop(p, part)
	whole, _ := plane.Crop(p, p.Rect)
	into, _ := plane.Paste(p, crop)
	apart, _ := plane.Paste(p, pl(r(9, 9, 9, 9)))
	from, _ := plane.Paste(crop, p)
	clip, _ := plane.Clip(p, math.MinInt, math.MaxInt)
	row, _ := plane.Row(p, 1)
	last, _ := plane.Row(p, 3)
	column, _ := plane.Column(p, 3)
	plane.At(p, 3, 1)
	plane.Limits(p)
	plane.Same(p, crop)
	return [][]int{crop.Data, whole.Data, into.Data, apart.Data, from.Data, clip.Data, row, last, column}
}

// R6
func TestArgumentsAndResultsAreKeptApart(t *testing.T) {
	behind := numbered(r(0, 0, 16, 1), 50).Data
	before := slices.Clone(behind)
	p := api.Plane{Rect: r(3, 1, 7, 4), Data: behind[:12]}
	for i, l := range results(p) {
		if len(l) == 0 || slices.Contains(l, -1) {
			t.Errorf("result %d is empty or shares memory with an earlier one: %v", i, l)
		}
		for j := range l[:cap(l)] {
			l[:cap(l)][j] = -1
		}
	}
	if !slices.Equal(behind, before) {
		t.Errorf("the samples became %v", behind)
	}
	first := results(p)
	for i := range behind {
		behind[i] = -1
	}
	for i, l := range first {
		if slices.Contains(l, -1) {
			t.Errorf("result %d shares memory with the plane", i)
		}
	}
}

// The examples of the chapter.
func TestExamples(t *testing.T) {
	p := pl(r(3, 1, 5, 3), 1, 2, 3, 4)
	if v, ok := plane.At(p, 4, 2); v != 4 || !ok {
		t.Errorf("At = %d, %v", v, ok)
	}
	if l, ok := plane.Row(p, 2); !slices.Equal(l, []int{3, 4}) || !ok {
		t.Errorf("Row = %v, %v", l, ok)
	}
	if l, ok := plane.Column(p, 3); !slices.Equal(l, []int{1, 3}) || !ok {
		t.Errorf("Column = %v, %v", l, ok)
	}
	if q, e := plane.Crop(p, r(4, 1, 5, 3)); !plane.Same(q, pl(r(4, 1, 5, 3), 2, 4)) || e != api.OK {
		t.Errorf("Crop = %v, %d", q, e)
	}
	if q, e := plane.Paste(p, pl(r(4, 2, 9, 3), 7, 8, 8, 8, 8)); !plane.Same(q, pl(p.Rect, 1, 2, 3, 7)) || e != api.OK {
		t.Errorf("Paste = %v, %d", q, e)
	}
	if q, e := plane.Clip(p, 2, 3); !plane.Same(q, pl(p.Rect, 2, 2, 3, 3)) || e != api.OK {
		t.Errorf("Clip = %v, %d", q, e)
	}
	if low, high, ok := plane.Limits(p); low != 1 || high != 4 || !ok {
		t.Errorf("Limits = %d, %d, %v", low, high, ok)
	}
	for _, part := range []api.Rect{r(0, 0, 1, 1), r(2, 0, 1, 1)} {
		if _, e := plane.Crop(pl(r(0, 0, 2, 2), 1, 2, 3), part); e != api.ErrArg {
			t.Errorf("Crop(%v) of a plane with a sample too few: error %d", part, e)
		}
	}
	if _, e := plane.New(r(0, 0, 4096, 4096)); e != api.ErrLimit {
		t.Errorf("New of 4096 by 4096: error %d", e)
	}
	if _, e := plane.New(r(0, 0, 1024, 1024)); e != api.OK {
		t.Errorf("New of 1024 by 1024: error %d", e)
	}
}
