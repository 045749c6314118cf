package color_test

import (
	"math"
	"math/big"
	"math/rand/v2"
	"slices"
	"testing"

	"wavelet/api"
	"wavelet/color"
	"wavelet/plane"
	"wavelet/rect"
)

// transforms are those that change a pixel.
var transforms = []api.Transform{api.RCT, api.YCoCg}

// strangers are transforms that are none.
var strangers = []api.Transform{3, -1, 4, math.MinInt, math.MaxInt}

// noDepths are depths that are none.
var noDepths = []int{math.MinInt, -1, 0, api.MaxDepth + 1, api.MaxDepth + 2, 64, math.MaxInt}

func r(x0, y0, x1, y1 int) api.Rect { return api.Rect{X0: x0, Y0: y0, X1: x1, Y1: y1} }

func pl(rc api.Rect, data ...int) api.Plane { return api.Plane{Rect: rc, Data: data} }

// scattered returns a plane of numbers from low to high, the same for the same seed.
func scattered(seed int, rc api.Rect, low, high int) api.Plane {
	source := rand.New(rand.NewPCG(uint64(seed), 4))
	p := pl(rc)
	for range rect.Area(rc) {
		p.Data = append(p.Data, low+source.IntN(high-low+1))
	}
	return p
}

// several returns that many planes with one rectangle.
func several(n, seed int, rc api.Rect, low, high int) []api.Plane {
	var l []api.Plane
	for i := range n {
		l = append(l, scattered(100*seed+i, rc, low, high))
	}
	return l
}

// broken returns planes that are not valid, each for another reason.
func broken() []api.Plane {
	return []api.Plane{
		pl(r(0, 0, 2, 2), 1, 2, 3), pl(r(0, 0, 2, 2), 1, 2, 3, 4, 5), pl(r(0, 0, 2, 2)), pl(r(3, 3, 3, 4), 1),
		pl(r(2, 0, 0, 2)), pl(r(-1, 0, 0, 1), 1), pl(r(0, 0, 1, api.MaxSide+1)), pl(r(0, -2, 0, -1)),
		pl(r(math.MinInt, math.MinInt, math.MaxInt, math.MaxInt), 1),
		{Rect: r(0, 0, 1024, 1025), Data: make([]int, 1024*1025)},
	}
}

// with returns a list with another plane at an index.
func with(l []api.Plane, i int, p api.Plane) []api.Plane {
	l = slices.Clone(l)
	l[i] = p
	return l
}

func same(a, b []api.Plane) bool { return slices.EqualFunc(a, b, plane.Same) }

func zero(p api.Plane) bool { return plane.Same(p, api.Plane{}) }

// floor returns a divided by b and rounded down.
func floor(a, b int) int {
	return int(new(big.Int).Div(big.NewInt(int64(a)), big.NewInt(int64(b))).Int64())
}

// forward transforms a pixel by the definitions of the chapter.
func forward(t api.Transform, p [3]int) [3]int {
	a, b, c := p[0], p[1], p[2]
	if t == api.RCT {
		return [3]int{floor(a+2*b+c, 4), c - b, a - b}
	}
	u := a - c
	m := c + floor(u, 2)
	v := b - m
	return [3]int{m + floor(v, 2), u, v}
}

// inverse restores a pixel by the definitions of the chapter.
func inverse(t api.Transform, p [3]int) [3]int {
	y, u, v := p[0], p[1], p[2]
	if t == api.RCT {
		b := y - floor(u+v, 4)
		return [3]int{v + b, b, u + b}
	}
	m := y - floor(v, 2)
	c := m - floor(u, 2)
	return [3]int{c + u, v + m, c}
}

// transformed returns the results of Forward, restored those of Inverse.
func transformed(t api.Transform, p [3]int) [3]int {
	y, u, v := color.Forward(t, p[0], p[1], p[2])
	return [3]int{y, u, v}
}

func restored(t api.Transform, p [3]int) [3]int {
	a, b, c := color.Inverse(t, p[0], p[1], p[2])
	return [3]int{a, b, c}
}

// triples returns all pixels with samples of a list.
func triples(l []int) [][3]int {
	var all [][3]int
	for _, a := range l {
		for _, b := range l {
			for _, c := range l {
				all = append(all, [3]int{a, b, c})
			}
		}
	}
	return all
}

// around returns the numbers that are at most 2 away from bounds with both signs.
func around(bounds ...int) []int {
	var l []int
	for _, b := range bounds {
		for d := -2; d <= 2; d++ {
			l = append(l, b+d, -b+d)
		}
	}
	return l
}

// atMost returns the numbers of a list whose absolute values are at most a bound.
func atMost(l []int, bound int) []int {
	return slices.DeleteFunc(slices.Clone(l), func(v int) bool { return v < -bound || v > bound })
}

// pixels returns small pixels, and some with samples up to a bound.
func pixels(bound int) [][3]int {
	l := triples([]int{-7, -6, -5, -4, -3, -2, -1, 0, 1, 2, 3, 4, 5, 6, 7})
	l = append(l, triples(atMost(around(0, 100, bound-2, bound), bound))...)
	data := scattered(1, r(0, 0, 3, 2000), -bound, bound).Data
	for i := 0; i < len(data); i += 3 {
		l = append(l, [3]int(data[i:i+3]))
	}
	return l
}

// P7.1
func TestForwardAndInverseFollowTheirDefinitions(t *testing.T) {
	for _, k := range transforms {
		for _, p := range pixels(api.MaxValue) {
			if got, want := transformed(k, p), forward(k, p); got != want {
				t.Fatalf("Forward(%d, %v) = %v; expected %v", k, p, got, want)
			}
			if got, want := restored(k, p), inverse(k, p); got != want {
				t.Fatalf("Inverse(%d, %v) = %v; expected %v", k, p, got, want)
			}
		}
	}
}

// P7.1
func TestOtherTransformsChangeNothing(t *testing.T) {
	for _, k := range append(strangers, api.NoColor) {
		for _, p := range triples([]int{math.MinInt, -3, 0, 1, 2, api.MaxValue, math.MaxInt}) {
			if a, b := transformed(k, p), restored(k, p); a != p || b != p {
				t.Errorf("Forward(%d, %v) = %v, Inverse %v", k, p, a, b)
			}
		}
	}
}

// R1
func TestForwardAndInverseOfAnyIntegersTerminate(t *testing.T) {
	for _, k := range transforms {
		for _, p := range triples([]int{math.MinInt, -1, 0, 1, math.MaxInt}) {
			transformed(k, p)
			restored(k, p)
		}
	}
}

// P7.7
func TestForwardAndInverseUndoEachOther(t *testing.T) {
	for _, k := range append(transforms, api.NoColor) {
		for _, p := range pixels(api.MaxSample) {
			if got := restored(k, transformed(k, p)); got != p {
				t.Fatalf("transform %d: Inverse of Forward(%v) = %v", k, p, got)
			}
			if got := transformed(k, restored(k, p)); got != p {
				t.Fatalf("transform %d: Forward of Inverse(%v) = %v", k, p, got)
			}
		}
	}
}

// P7.8
func TestGrayPixelsHaveNoChrominance(t *testing.T) {
	for _, k := range transforms {
		for _, a := range around(0, 5, 77, api.MaxSample, api.MaxValue-2) {
			if got := transformed(k, [3]int{a, a, a}); got != [3]int{a, 0, 0} {
				t.Errorf("Forward(%d) of three times %d = %v", k, a, got)
			}
		}
		for _, p := range pixels(api.MaxSample) {
			before := transformed(k, p)
			for _, d := range []int{1, 2, 3, -1, -250, api.MaxSample} {
				if got := transformed(k, [3]int{p[0] + d, p[1] + d, p[2] + d}); got != [3]int{before[0] + d, before[1], before[2]} {
					t.Fatalf("Forward(%d) of %v and %d = %v; that of %v is %v", k, p, d, got, p, before)
				}
			}
		}
	}
}

// some are valid rectangles, some without points.
var some = []api.Rect{{}, r(0, 0, 1, 1), r(3, 2, 10, 7), r(5, 5, 5, 9), r(4096, 0, 4096, 4096), r(4091, 4090, 4096, 4096), r(0, 7, 40, 8)}

// at returns the samples of the first three planes at an index.
func at(l []api.Plane, i int) [3]int {
	return [3]int{l[0].Data[i], l[1].Data[i], l[2].Data[i]}
}

// replaced returns planes with what f returns for each pixel of the first three.
func replaced(l []api.Plane, f func(p [3]int) [3]int) []api.Plane {
	result := slices.Clone(l)
	for j := range 3 {
		result[j] = pl(l[j].Rect)
		for i := range l[j].Data {
			result[j].Data = append(result[j].Data, f(at(l, i))[j])
		}
	}
	return result
}

// change is Apply or Undo, with the definition of what it does to a pixel and the greatest absolute value of a sample.
type change struct {
	name  string
	call  func(api.Transform, []api.Plane) ([]api.Plane, api.Errno)
	pixel func(api.Transform, [3]int) [3]int
	bound int
}

var changes = []change{
	{"Apply", color.Apply, forward, api.MaxSample},
	{"Undo", color.Undo, inverse, api.MaxValue},
}

// expect compares what a change returns with the expected result, which is nothing if there is an error.
func expect(t *testing.T, c change, k api.Transform, planes, want []api.Plane, e api.Errno) {
	t.Helper()
	if got, f := c.call(k, planes); f != e || !same(got, want) {
		t.Errorf("%s(%d, %d planes) = %v, %d; expected %v, %d", c.name, k, len(planes), got, f, want, e)
	}
}

// wild are planes that a transform does not change, and that would be errors among the first three.
var wild = []api.Plane{
	pl(r(1, 2, 4, 3), math.MinInt, math.MaxInt, 7), pl(r(9, 9, 9, 12)), pl(api.Rect{}), pl(r(0, 0, 2, 2), 1, api.MaxValue+1, -api.MaxValue-1, 4),
}

// P7.2
func TestApplyAndUndoReplaceThePixels(t *testing.T) {
	for _, c := range changes {
		for _, k := range transforms {
			for i, rc := range some {
				for _, bound := range []int{1, 255, c.bound} {
					l := several(3, i, rc, -bound, bound)
					want := replaced(l, func(p [3]int) [3]int { return c.pixel(k, p) })
					for n := range wild {
						expect(t, c, k, append(l, wild[:n]...), append(want, wild[:n]...), api.OK)
					}
				}
			}
		}
	}
}

// P7.2
func TestNoColorChangesNoPlane(t *testing.T) {
	for _, c := range changes {
		for n := range len(wild) + 1 {
			expect(t, c, api.NoColor, wild[:n], wild[:n], api.OK)
		}
		expect(t, c, api.NoColor, nil, nil, api.OK)
		for _, bad := range broken() {
			for i := range wild {
				expect(t, c, api.NoColor, with(wild, i, bad), nil, api.ErrArg)
			}
		}
	}
}

// P7.2
func TestApplyAndUndoErrorsInTheirOrder(t *testing.T) {
	rc := r(3, 2, 6, 4)
	for _, c := range changes {
		tooLarge := pl(rc, 0, 0, 0, 0, 0, c.bound+1)
		for _, bad := range broken() {
			for i := range 5 {
				l := with(append(several(3, i, rc, -9, 9), wild...), i, bad)
				for _, k := range strangers {
					expect(t, c, k, l, nil, api.ErrKind)
				}
				for _, k := range transforms {
					expect(t, c, k, l, nil, api.ErrArg)
					// Among too few planes or after other errors, one that is not valid comes first.
					expect(t, c, k, l[i:i+1], nil, api.ErrArg)
					expect(t, c, k, with(l, (i+1)%3, tooLarge), nil, api.ErrArg)
				}
			}
		}
		for _, k := range strangers {
			for n := range 5 {
				expect(t, c, k, several(n, 1, rc, -9, 9), nil, api.ErrKind)
			}
			expect(t, c, k, nil, nil, api.ErrKind)
		}
		for _, k := range transforms {
			for n := range 3 {
				expect(t, c, k, several(n, 1, rc, -9, 9), nil, api.ErrLength)
				// The length comes before the rectangles and the samples.
				expect(t, c, k, append([]api.Plane{tooLarge}, wild[:n]...)[:n], nil, api.ErrLength)
			}
			expect(t, c, k, nil, nil, api.ErrLength)
		}
	}
}

// P7.2
func TestApplyAndUndoNeedOneRectangle(t *testing.T) {
	rc := r(3, 2, 6, 4)
	for _, c := range changes {
		for _, k := range transforms {
			l := several(4, 1, rc, -9, 9)
			for i := range 3 {
				for _, other := range []api.Rect{r(4, 2, 7, 4), r(3, 3, 6, 5), r(3, 2, 5, 4), r(3, 2, 6, 5), r(3, 2, 9, 3), {}} {
					expect(t, c, k, with(l, i, scattered(1, other, -9, 9)), nil, api.ErrArg)
					// The rectangles come before the samples.
					expect(t, c, k, with(with(l, i, scattered(1, other, -9, 9)), (i+1)%3, pl(rc, 0, 0, c.bound+1, 0, 0, 0)), nil, api.ErrArg)
				}
				expect(t, c, k, with(several(3, 1, r(2, 2, 2, 5), 0, 0), i, pl(r(2, 2, 2, 4))), nil, api.ErrArg)
			}
		}
	}
}

// P7.2
func TestApplyAndUndoCheckTheSamples(t *testing.T) {
	rc := r(3, 2, 6, 4)
	for _, c := range changes {
		for _, k := range transforms {
			for i := range 3 {
				for j := range rect.Area(rc) {
					for _, v := range []int{c.bound, -c.bound, c.bound + 1, -c.bound - 1, math.MaxInt, math.MinInt} {
						l := several(3, 1, rc, -9, 9)
						l[i].Data[j] = v
						if v == c.bound || v == -c.bound {
							expect(t, c, k, l, replaced(l, func(p [3]int) [3]int { return c.pixel(k, p) }), api.OK)
						} else {
							expect(t, c, k, l, nil, api.ErrRange)
						}
					}
				}
			}
		}
	}
}

// P7.7
func TestApplyAndUndoOfPlanesUndoEachOther(t *testing.T) {
	apply, undo := changes[0], changes[1]
	for _, k := range append(transforms, api.NoColor) {
		for i, rc := range some {
			for _, bound := range []int{3, 1000, api.MaxSample - 5, api.MaxSample} {
				l := several(4, i, rc, -bound, bound)
				there, e := apply.call(k, l)
				if e != api.OK {
					t.Fatalf("Apply(%d): error %d", k, e)
				}
				expect(t, undo, k, there, l, api.OK)
				back, e := undo.call(k, l)
				if e != api.OK {
					t.Fatalf("Undo(%d): error %d", k, e)
				}
				if k == api.NoColor || !slices.ContainsFunc(back[:3], outOfRange) {
					expect(t, apply, k, back, l, api.OK)
				} else {
					expect(t, apply, k, back, nil, api.ErrRange)
				}
			}
		}
	}
}

// outOfRange reports whether Apply rejects a sample of a plane.
func outOfRange(p api.Plane) bool {
	return len(atMost(p.Data, api.MaxSample)) != len(p.Data)
}

// limits returns the range of a component by the definition of the chapter.
func limits(c api.Component) (low, high int) {
	if c.Signed {
		return -int(math.Pow(2, float64(c.Depth-1))), int(math.Pow(2, float64(c.Depth-1))) - 1
	}
	return 0, int(math.Pow(2, float64(c.Depth))) - 1
}

// offset returns the offset of a component by the definition of the chapter.
func offset(c api.Component) int {
	if c.Signed {
		return 0
	}
	return int(math.Pow(2, float64(c.Depth-1)))
}

// components returns all components with a depth, with all kinds of other fields.
func components() []api.Component {
	var l []api.Component
	for depth := 1; depth <= api.MaxDepth; depth++ {
		for _, d := range [][2]int{{1, 1}, {2, 3}, {0, -5}, {math.MinInt, math.MaxInt}} {
			l = append(l, api.Component{Depth: depth, DX: d[0], DY: d[1]}, api.Component{Depth: depth, Signed: true, DX: d[0], DY: d[1]})
		}
	}
	return l
}

// depthless returns components whose depth is none.
func depthless() []api.Component {
	var l []api.Component
	for _, depth := range noDepths {
		l = append(l, api.Component{Depth: depth, DX: 1, DY: 1}, api.Component{Depth: depth, Signed: true, DX: 1, DY: 1})
	}
	return l
}

// P7.3
func TestRange(t *testing.T) {
	for _, c := range components() {
		low, high := color.Range(c)
		if wantLow, wantHigh := limits(c); low != wantLow || high != wantHigh {
			t.Errorf("Range(%v) = %d, %d; expected %d, %d", c, low, high, wantLow, wantHigh)
		}
	}
	for _, c := range depthless() {
		if low, high := color.Range(c); low != 0 || high != 0 {
			t.Errorf("Range(%v) = %d, %d", c, low, high)
		}
	}
}

// expectShift compares what Shift or Unshift returns with the expected result.
func expectShift(t *testing.T, f func(api.Plane, api.Component) (api.Plane, api.Errno), p api.Plane, c api.Component, want api.Plane, e api.Errno) {
	t.Helper()
	if got, g := f(p, c); g != e || !plane.Same(got, want) {
		t.Errorf("component %v, plane %v with %d samples: %v, %d; expected %v, %d", c, p.Rect, len(p.Data), got, g, want, e)
	}
}

// P7.4, P7.5, P7.9
func TestShiftAndUnshiftOfSamplesInTheRange(t *testing.T) {
	for _, c := range components() {
		low, high := limits(c)
		bound := color.Bound(api.NoColor, c.Depth)
		for i, rc := range some {
			p := scattered(i, rc, low, high)
			for j, v := range []int{low, high, 0} {
				if j < len(p.Data) {
					p.Data[j] = v
				}
			}
			want := pl(rc)
			for _, v := range p.Data {
				want.Data = append(want.Data, v-offset(c))
			}
			expectShift(t, color.Shift, p, c, want, api.OK)
			expectShift(t, color.Unshift, want, c, p, api.OK)
			if len(atMost(want.Data, bound)) != len(want.Data) {
				t.Errorf("%v: the bound is %d, the samples are %v", c, bound, want.Data)
			}
		}
	}
}

// P7.4
func TestShiftChecksTheSamples(t *testing.T) {
	rc := r(3, 2, 6, 4)
	for _, c := range components() {
		low, high := limits(c)
		for i := range rect.Area(rc) {
			for _, v := range []int{low - 1, high + 1, low - 9, high + 9, math.MinInt, math.MaxInt} {
				p := scattered(i, rc, low, high)
				p.Data[i] = v
				expectShift(t, color.Shift, p, c, api.Plane{}, api.ErrRange)
			}
		}
	}
}

// P7.4, P7.5
func TestShiftAndUnshiftErrorsInTheirOrder(t *testing.T) {
	tooLarge := pl(r(0, 0, 2, 1), math.MaxInt, math.MinInt)
	for _, f := range []func(api.Plane, api.Component) (api.Plane, api.Errno){color.Shift, color.Unshift} {
		for _, bad := range broken() {
			for _, c := range append(components(), depthless()...) {
				expectShift(t, f, bad, c, api.Plane{}, api.ErrArg)
			}
		}
		for _, c := range depthless() {
			for _, p := range []api.Plane{{}, pl(r(0, 0, 2, 1), 0, 0), tooLarge} {
				expectShift(t, f, p, c, api.Plane{}, api.ErrHeader)
			}
		}
	}
}

// raised returns the mathematical sum of a sample and the offset of a component, limited to the range of it.
func raised(v int, c api.Component) int {
	sum := new(big.Int).Add(big.NewInt(int64(v)), big.NewInt(int64(offset(c))))
	low, high := limits(c)
	if sum.Cmp(big.NewInt(int64(low))) < 0 {
		return low
	}
	if sum.Cmp(big.NewInt(int64(high))) > 0 {
		return high
	}
	return int(sum.Int64())
}

// P7.5, P7.9
func TestUnshiftOfAnyIntegers(t *testing.T) {
	for _, c := range components() {
		low, high := limits(c)
		l := around(0, low, high, offset(c), 1<<c.Depth, api.MaxValue, math.MaxInt/2)
		for d := range 70000 {
			if d < 9 || d%4999 == 0 {
				l = append(l, d, -d, math.MinInt+d, math.MaxInt-d)
			}
		}
		p := pl(r(0, 0, len(l), 1), l...)
		want := pl(p.Rect)
		for _, v := range l {
			want.Data = append(want.Data, raised(v, c))
		}
		expectShift(t, color.Unshift, p, c, want, api.OK)
		got, _ := color.Unshift(p, c)
		if least, greatest, ok := plane.Limits(got); !ok || least != low || greatest != high {
			t.Errorf("Unshift for %v has samples from %d to %d", c, least, greatest)
		}
	}
}

// P7.6
func TestBound(t *testing.T) {
	for depth := 1; depth <= api.MaxDepth; depth++ {
		half := int(math.Pow(2, float64(depth-1)))
		for k, want := range []int{api.NoColor: half, api.RCT: 2 * half, api.YCoCg: 2 * half} {
			if b := color.Bound(api.Transform(k), depth); b != want {
				t.Errorf("Bound(%d, %d) = %d; expected %d", k, depth, b, want)
			}
		}
		for _, k := range strangers {
			if b := color.Bound(k, depth); b != 0 {
				t.Errorf("Bound(%d, %d) = %d", k, depth, b)
			}
		}
	}
	for _, depth := range noDepths {
		for _, k := range append(strangers, api.NoColor, api.RCT, api.YCoCg) {
			if b := color.Bound(k, depth); b != 0 {
				t.Errorf("Bound(%d, %d) = %d", k, depth, b)
			}
		}
	}
}

// P7.10
func TestTransformedSamplesAreWithinTheBound(t *testing.T) {
	for depth := 1; depth <= api.MaxDepth; depth++ {
		half := 1 << (depth - 1)
		ends := triples([]int{-half, half - 1, max(-half, -1), 0, min(half-1, 1)})
		l := several(3, depth, r(0, 0, 60, 20), -half, half-1)
		for i, p := range ends {
			for j, v := range p {
				l[j].Data[i] = v
			}
		}
		for _, k := range append(transforms, api.NoColor) {
			bands, e := color.Apply(k, l)
			for _, p := range bands {
				if bound := color.Bound(k, depth); e != api.OK || len(atMost(p.Data, bound)) != len(p.Data) {
					least, greatest, _ := plane.Limits(p)
					t.Errorf("Apply(%d), depth %d: error %d, samples from %d to %d; the bound is %d", k, depth, e, least, greatest, bound)
				}
			}
		}
	}
}

// overwrite stores a mark into planes and the capacity behind them.
func overwrite(planes ...api.Plane) {
	for _, p := range planes {
		l := p.Data[:cap(p.Data)]
		for i := range l {
			l[i] = -12345
		}
	}
}

// R6
func TestPlanesShareNoMemory(t *testing.T) {
	rc := r(3, 2, 6, 4)
	for _, k := range append(transforms, api.NoColor) {
		for _, c := range changes {
			behind := scattered(1, r(0, 0, 20, 1), -9, 9).Data
			before := slices.Clone(behind)
			// All planes are one slice.
			p := api.Plane{Rect: rc, Data: behind[:6]}
			l := []api.Plane{p, p, p, p}
			want, _ := c.call(k, l)
			got, e := c.call(k, l)
			for i := range got {
				if e != api.OK || !plane.Same(got[i], want[i]) {
					t.Errorf("%s(%d): plane %d shares memory with another one", c.name, k, i)
				}
				overwrite(got[i])
			}
			if !slices.Equal(behind, before) {
				t.Errorf("%s(%d) shares memory with its argument", c.name, k)
			}
		}
	}
}

// R6
func TestShiftedPlanesShareNoMemory(t *testing.T) {
	for _, f := range []func(api.Plane, api.Component) (api.Plane, api.Errno){color.Shift, color.Unshift} {
		for _, c := range []api.Component{{Depth: 8}, {Depth: 8, Signed: true}} {
			behind := scattered(1, r(0, 0, 20, 1), 0, 9).Data
			before := slices.Clone(behind)
			got, e := f(api.Plane{Rect: r(3, 2, 6, 4), Data: behind[:6]}, c)
			overwrite(got)
			if e != api.OK || zero(got) || !slices.Equal(behind, before) {
				t.Errorf("component %v: error %d, or shared memory", c, e)
			}
		}
	}
}

// The examples of the chapter.
func TestExamples(t *testing.T) {
	if got := transformed(api.RCT, [3]int{10, 20, 5}); got != [3]int{13, -15, -10} {
		t.Errorf("RCT = %v", got)
	}
	if got := restored(api.RCT, [3]int{13, -15, -10}); got != [3]int{10, 20, 5} {
		t.Errorf("the inverse of RCT = %v", got)
	}
	if got := transformed(api.YCoCg, [3]int{10, 20, 5}); got != [3]int{13, 5, 13} {
		t.Errorf("YCoCg = %v", got)
	}
	if got := restored(api.YCoCg, [3]int{13, 5, 13}); got != [3]int{10, 20, 5} {
		t.Errorf("the inverse of YCoCg = %v", got)
	}
	c, rc := api.Component{Depth: 8, DX: 1, DY: 1}, r(0, 0, 3, 1)
	expectShift(t, color.Shift, pl(rc, 0, 128, 255), c, pl(rc, -128, 0, 127), api.OK)
	expectShift(t, color.Unshift, pl(rc, -200, 0, 500), c, pl(rc, 0, 128, 255), api.OK)
	expectShift(t, color.Shift, pl(rc, 0, 256, 255), c, api.Plane{}, api.ErrRange)
	p := pl(rc, 1, 2, 3)
	if l, e := color.Apply(api.RCT, []api.Plane{p, p}); len(l) != 0 || e != api.ErrLength {
		t.Errorf("Apply to two planes = %v, %d", l, e)
	}
	if l, e := color.Apply(api.RCT, []api.Plane{p, p, pl(r(0, 0, 1, 3), 1, 2, 3)}); len(l) != 0 || e != api.ErrArg {
		t.Errorf("Apply to different rectangles = %v, %d", l, e)
	}
}
