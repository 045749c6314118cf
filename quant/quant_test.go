package quant_test

import (
	"math"
	"math/big"
	"math/rand/v2"
	"slices"
	"testing"

	"wavelet/api"
	"wavelet/plane"
	"wavelet/quant"
	"wavelet/rect"
)

// steps and deads are valid, the others are not.
var (
	steps   = []int{1, 2, 3, 7, 8, 16, 100, 255, api.MaxStep - 1, api.MaxStep}
	deads   = []int{api.MinDead, api.MinDead + 1, 15, 16, 17, 31, api.MaxDead}
	noSteps = []int{math.MinInt, -api.MaxStep, -8, -1, 0, api.MaxStep + 1, 2 * api.MaxStep, math.MaxInt}
	noDeads = []int{math.MinInt, -16, -1, 0, 1, api.MinDead - 1, api.MaxDead + 1, 64, math.MaxInt}
)

// noCounts are numbers of missing bit planes that are none.
var noCounts = []int{math.MinInt, -2, -1, api.MaxPlanes + 1, api.MaxPlanes + 2, 64, math.MaxInt}

func r(x0, y0, x1, y1 int) api.Rect { return api.Rect{X0: x0, Y0: y0, X1: x1, Y1: y1} }

func pl(rc api.Rect, data ...int) api.Plane { return api.Plane{Rect: rc, Data: data} }

func num(v int) *big.Int { return big.NewInt(int64(v)) }

func sum(a, b *big.Int) *big.Int { return new(big.Int).Add(a, b) }

func product(a, b *big.Int) *big.Int { return new(big.Int).Mul(a, b) }

func negative(a *big.Int) *big.Int { return new(big.Int).Neg(a) }

// floor returns a divided by b and rounded down.
func floor(a, b *big.Int) *big.Int { return new(big.Int).Div(a, b) }

// power returns 2^n.
func power(n int) *big.Int { return new(big.Int).Lsh(num(1), uint(n)) }

// limited returns a number limited to the range from -bound to bound.
func limited(a *big.Int, bound int) int {
	if a.CmpAbs(num(bound)) > 0 {
		return a.Sign() * bound
	}
	return int(a.Int64())
}

// threshold, index, interval and reconstructed follow the definitions of the chapter.
func threshold(step, dead int) int { return max(1, int(math.Floor(float64(step*dead)/16))) }

func index(c, step, dead int) int {
	n := num(limited(num(c), api.MaxValue))
	above := sum(new(big.Int).Abs(n), num(-threshold(step, dead)))
	if above.Sign() < 0 {
		return 0
	}
	return n.Sign() * int(sum(num(1), floor(above, num(step))).Int64())
}

func interval(v *big.Int, missing, step, dead int) (low, high *big.Int) {
	first, size := num(threshold(step, dead)), product(power(missing), num(step))
	switch v.Sign() {
	case 0:
		h := sum(sum(first, num(-1)), sum(size, num(-step)))
		return negative(h), h
	case 1:
		low = sum(first, product(sum(v, num(-1)), num(step)))
		return low, sum(low, sum(size, num(-1)))
	}
	low, high = interval(negative(v), missing, step, dead)
	return negative(high), negative(low)
}

func reconstructed(v, missing, step, dead int) int {
	if v == 0 {
		return 0
	}
	low, high := interval(new(big.Int).Abs(num(v)), missing, step, dead)
	return num(v).Sign() * limited(floor(sum(low, high), num(2)), api.MaxCoefficient)
}

// pairs calls f for all valid steps and dead-zone parameters of the lists.
func pairs(f func(step, dead int)) {
	for _, step := range steps {
		for _, dead := range deads {
			f(step, dead)
		}
	}
}

// noPairs calls f for pairs of which one or both are not valid.
func noPairs(f func(step, dead int)) {
	for _, step := range append(noSteps, steps...) {
		for _, dead := range noDeads {
			f(step, dead)
		}
	}
	for _, step := range noSteps {
		for _, dead := range deads {
			f(step, dead)
		}
	}
}

// integers returns small numbers, powers of two and their neighbors, and the ends of the integers, each with both signs.
func integers() []int {
	l := []int{math.MinInt, math.MinInt + 1, math.MinInt + 2, math.MaxInt, math.MaxInt - 1}
	for v := range 40 {
		l = append(l, v, -v)
	}
	for n := 5; n < 63; n++ {
		for d := -1; d <= 1; d++ {
			l = append(l, 1<<n+d, -1<<n+d)
		}
	}
	return l
}

// nearby returns coefficients at the ends of the first intervals and of some later ones, with both signs.
func nearby(step, dead int) []int {
	var l []int
	for _, k := range []int{-1, 0, 1, 2, 3, 10, 255, api.MaxCoefficient / api.MaxStep, api.MaxValue/step - 2} {
		for d := -1; d <= 1; d++ {
			c := threshold(step, dead) + k*step + d
			l = append(l, c, -c)
		}
	}
	return l
}

// coefficients returns those of both lists and random ones.
func coefficients(step, dead int) []int {
	l := append(integers(), nearby(step, dead)...)
	source := rand.New(rand.NewPCG(uint64(step), uint64(dead)))
	for range 50 {
		l = append(l, source.IntN(40*step+1)-20*step, source.IntN(2*api.MaxValue+1)-api.MaxValue, int(source.Uint64()))
	}
	return l
}

// P8.1
func TestValidAndThreshold(t *testing.T) {
	pairs(func(step, dead int) {
		if n := quant.Threshold(step, dead); !quant.Valid(step, dead) || n != threshold(step, dead) {
			t.Errorf("step %d, parameter %d: Valid is %v, Threshold %d", step, dead, quant.Valid(step, dead), n)
		}
	})
	noPairs(func(step, dead int) {
		if n := quant.Threshold(step, dead); quant.Valid(step, dead) || n != 0 {
			t.Errorf("step %d, parameter %d: Valid is %v, Threshold %d", step, dead, quant.Valid(step, dead), n)
		}
	})
	for step := 1; step < 70; step++ {
		for dead := api.MinDead; dead <= api.MaxDead; dead++ {
			if n := quant.Threshold(step, dead); n != threshold(step, dead) {
				t.Errorf("Threshold(%d, %d) = %d", step, dead, n)
			}
		}
	}
}

// P8.2
func TestQuantizeFollowsItsDefinition(t *testing.T) {
	pairs(func(step, dead int) {
		for _, c := range coefficients(step, dead) {
			if v := quant.Quantize(c, step, dead); v != index(c, step, dead) {
				t.Errorf("Quantize(%d, %d, %d) = %d; expected %d", c, step, dead, v, index(c, step, dead))
			}
		}
	})
	noPairs(func(step, dead int) {
		for _, c := range []int{math.MinInt, -1000, -1, 0, 1, 1000, math.MaxInt} {
			if v := quant.Quantize(c, step, dead); v != 0 {
				t.Errorf("Quantize(%d, %d, %d) = %d", c, step, dead, v)
			}
		}
	})
}

// P8.2, P8.8
func TestQuantizeLimitsItsArgument(t *testing.T) {
	pairs(func(step, dead int) {
		most := quant.Quantize(api.MaxValue, step, dead)
		for _, c := range []int{api.MaxValue + 1, api.MaxValue + step, 1 << 60, math.MaxInt} {
			if v, w := quant.Quantize(c, step, dead), quant.Quantize(-c, step, dead); v != most || w != -most {
				t.Errorf("the indices of %d and %d are %d and %d; expected %d", c, -c, v, w, most)
			}
		}
		if v := quant.Quantize(math.MinInt, step, dead); v != -most {
			t.Errorf("Quantize of the minimum integer = %d; expected %d", v, -most)
		}
	})
}

// P8.8
func TestQuantizeKeepsTheOrder(t *testing.T) {
	pairs(func(step, dead int) {
		l := coefficients(step, dead)
		slices.Sort(l)
		for i, c := range l {
			v := quant.Quantize(c, step, dead)
			if c != math.MinInt && quant.Quantize(-c, step, dead) != -v {
				t.Errorf("the indices of %d and %d are %d and %d", c, -c, v, quant.Quantize(-c, step, dead))
			}
			if i > 0 && quant.Quantize(l[i-1], step, dead) > v {
				t.Errorf("step %d, parameter %d: the index of %d is greater than that of %d", step, dead, l[i-1], c)
			}
		}
	})
	for _, c := range integers() {
		if v := quant.Quantize(c, 1, 16); v != limited(num(c), api.MaxValue) {
			t.Errorf("Quantize(%d, 1, 16) = %d", c, v)
		}
		if w := quant.Reconstruct(c, 0, 1, 16); w != limited(num(c), api.MaxCoefficient) {
			t.Errorf("Reconstruct(%d, 0, 1, 16) = %d", c, w)
		}
	}
}

// expectInterval compares Interval and Reconstruct with the definitions.
func expectInterval(t *testing.T, v, missing, step, dead int) {
	t.Helper()
	wantLow, wantHigh := interval(num(v), missing, step, dead)
	low, high := quant.Interval(v, missing, step, dead)
	if low != limited(wantLow, api.MaxValue) || high != limited(wantHigh, api.MaxValue) {
		t.Errorf("Interval(%d, %d, %d, %d) = %d, %d; expected %d, %d", v, missing, step, dead, low, high, wantLow, wantHigh)
	}
	if c, want := quant.Reconstruct(v, missing, step, dead), reconstructed(v, missing, step, dead); c != want {
		t.Errorf("Reconstruct(%d, %d, %d, %d) = %d; expected %d", v, missing, step, dead, c, want)
	}
}

// P8.3, P8.4
func TestIntervalAndReconstructFollowTheirDefinitions(t *testing.T) {
	l := integers()
	pairs(func(step, dead int) {
		for _, v := range l {
			for _, missing := range []int{0, 1, 2, 3, 10, 16, 31, 32, 33, 47, 48, 49, 59, api.MaxPlanes} {
				expectInterval(t, v, missing, step, dead)
			}
		}
	})
	for missing := range api.MaxPlanes + 1 {
		for _, v := range l {
			expectInterval(t, v, missing, 1, 16)
			expectInterval(t, v, missing, api.MaxStep, api.MaxDead)
		}
	}
}

// P8.3, P8.4
func TestIntervalAndReconstructNearTheLimits(t *testing.T) {
	pairs(func(step, dead int) {
		for _, limit := range []int{api.MaxValue, api.MaxCoefficient} {
			for missing := range api.MaxPlanes + 1 {
				for d := -3; d <= 3; d++ {
					v := limit/step + d
					expectInterval(t, v, missing, step, dead)
					expectInterval(t, -v, missing, step, dead)
					// The middle of this one lies near the limit.
					w := (limit - limited(power(missing), limit)/2*step) / step
					expectInterval(t, w+d, missing, step, dead)
					expectInterval(t, -w+d, missing, step, dead)
				}
			}
		}
	})
}

// P8.3, P8.4
func TestIntervalAndReconstructOfInvalidArguments(t *testing.T) {
	expect := func(missing, step, dead int) {
		t.Helper()
		for _, v := range []int{math.MinInt, -5, 0, 1, 7, math.MaxInt} {
			if low, high := quant.Interval(v, missing, step, dead); low != 0 || high != 0 {
				t.Errorf("Interval(%d, %d, %d, %d) = %d, %d", v, missing, step, dead, low, high)
			}
			if c := quant.Reconstruct(v, missing, step, dead); c != 0 {
				t.Errorf("Reconstruct(%d, %d, %d, %d) = %d", v, missing, step, dead, c)
			}
		}
	}
	noPairs(func(step, dead int) {
		expect(0, step, dead)
		expect(api.MaxPlanes, step, dead)
		expect(-1, step, dead)
	})
	pairs(func(step, dead int) {
		for _, missing := range noCounts {
			expect(missing, step, dead)
		}
	})
}

// cleared returns an index whose lowest bit planes are 0.
func cleared(v, missing int) int {
	if v < 0 {
		return -cleared(-v, missing)
	}
	return v >> missing << missing
}

// P8.9
func TestCoefficientsLieInTheirIntervals(t *testing.T) {
	pairs(func(step, dead int) {
		for _, c := range coefficients(step, dead) {
			if c < -api.MaxValue || c > api.MaxValue {
				continue
			}
			v := quant.Quantize(c, step, dead)
			for missing := range api.MaxPlanes + 1 {
				if low, high := quant.Interval(cleared(v, missing), missing, step, dead); c < low || c > high {
					t.Errorf("step %d, parameter %d, %d missing planes: %d with the index %d is not from %d to %d", step, dead, missing, c, v, low, high)
				}
			}
		}
	})
}

// P8.9
func TestReconstructLiesInTheInterval(t *testing.T) {
	pairs(func(step, dead int) {
		for _, v := range append(integers(), api.MaxCoefficient/step-3, -api.MaxCoefficient/step+3) {
			for missing := range 35 {
				low, high := quant.Interval(v, missing, step, dead)
				if low < -api.MaxCoefficient || high > api.MaxCoefficient {
					continue
				}
				c := quant.Reconstruct(v, missing, step, dead)
				if c < low || c > high {
					t.Errorf("Reconstruct(%d, %d, %d, %d) = %d is not from %d to %d", v, missing, step, dead, c, low, high)
				}
				if again := quant.Quantize(c, step, dead); v != 0 && missing == 0 && again != v {
					t.Errorf("Quantize(%d, %d, %d) = %d; expected %d", c, step, dead, again, v)
				}
			}
		}
	})
}

// digits returns the number of binary digits of a number that is not negative.
func digits(n int) int {
	if n == 0 {
		return 0
	}
	return len(num(n).Text(2))
}

// P8.5
func TestPlanes(t *testing.T) {
	pairs(func(step, dead int) {
		for _, bound := range coefficients(step, dead) {
			want := 0
			if bound >= 0 {
				want = digits(index(bound, step, dead))
			}
			if n := quant.Planes(bound, step, dead); n != want {
				t.Errorf("Planes(%d, %d, %d) = %d; expected %d", bound, step, dead, n, want)
			}
		}
	})
	noPairs(func(step, dead int) {
		for _, bound := range []int{math.MinInt, -1, 0, 1, 1000, math.MaxInt} {
			if n := quant.Planes(bound, step, dead); n != 0 {
				t.Errorf("Planes(%d, %d, %d) = %d", bound, step, dead, n)
			}
		}
	})
}

// P8.10
func TestIndicesHaveNoMorePlanes(t *testing.T) {
	pairs(func(step, dead int) {
		for _, bound := range coefficients(step, dead) {
			if bound < 0 || bound > api.MaxValue {
				continue
			}
			n := quant.Planes(bound, step, dead)
			for _, c := range []int{bound, -bound, max(bound-1, 0), bound / 2, -bound / 3} {
				if v := quant.Quantize(c, step, dead); num(v).CmpAbs(power(n)) >= 0 {
					t.Errorf("the index of %d is %d, but Planes(%d, %d, %d) is %d", c, v, bound, step, dead, n)
				}
			}
		}
	})
}

// unscaled is Unscale by the definition of the chapter, for a valid shift and number of missing planes.
func unscaled(v, missing, shift int) (int, int) {
	size := new(big.Int).Abs(num(v))
	if size.Cmp(power(shift)) < 0 {
		return v, min(missing, shift)
	}
	n := product(floor(size, power(shift)), num(num(v).Sign()))
	return int(n.Int64()), max(0, missing-shift)
}

// P8.6
func TestUnscale(t *testing.T) {
	for _, v := range integers() {
		for missing := range api.MaxPlanes + 1 {
			for shift := 1; shift <= api.MaxShift; shift++ {
				wantV, wantM := unscaled(v, missing, shift)
				if n, m := quant.Unscale(v, missing, shift); n != wantV || m != wantM {
					t.Errorf("Unscale(%d, %d, %d) = %d, %d; expected %d, %d", v, missing, shift, n, m, wantV, wantM)
				}
			}
		}
	}
}

// P8.6
func TestUnscaleOfInvalidArgumentsChangesNothing(t *testing.T) {
	expect := func(missing, shift int) {
		t.Helper()
		for _, v := range []int{math.MinInt, -100, -1, 0, 1, 5, 1 << 40, math.MaxInt} {
			if n, m := quant.Unscale(v, missing, shift); n != v || m != missing {
				t.Errorf("Unscale(%d, %d, %d) = %d, %d", v, missing, shift, n, m)
			}
		}
	}
	for _, shift := range []int{math.MinInt, -1, 0, api.MaxShift + 1, api.MaxShift + 2, 63, 64, math.MaxInt} {
		for _, missing := range append(noCounts, 0, 1, 5, 31, api.MaxPlanes) {
			expect(missing, shift)
		}
	}
	for shift := 1; shift <= api.MaxShift; shift++ {
		for _, missing := range noCounts {
			expect(missing, shift)
		}
	}
}

// P8.11
func TestUnscaleUndoesTheShift(t *testing.T) {
	for shift := 1; shift <= api.MaxShift; shift++ {
		for _, v := range integers() {
			if v < 0 || v >= 1<<shift {
				continue
			}
			if n, m := quant.Unscale(v<<shift, 0, shift); v > 0 && (n != v || m != 0) {
				t.Errorf("Unscale(%d, 0, %d) = %d, %d; expected %d, 0", v<<shift, shift, n, m, v)
			}
			if n, m := quant.Unscale(v, 0, shift); n != v || m != 0 {
				t.Errorf("Unscale(%d, 0, %d) = %d, %d", v, shift, n, m)
			}
		}
	}
}

// broken returns planes that are not valid, each for another reason.
func broken() []api.Plane {
	return []api.Plane{
		pl(r(0, 0, 2, 2), 1, 2, 3), pl(r(0, 0, 2, 2), 1, 2, 3, 4, 5), pl(r(0, 0, 2, 2)), pl(r(3, 3, 3, 4), 1),
		pl(r(2, 0, 0, 2)), pl(r(-1, 0, 0, 1), 1), pl(r(0, 0, 1, api.MaxSide+1)), pl(r(0, -2, 0, -1)),
		pl(r(math.MinInt, math.MinInt, math.MaxInt, math.MaxInt), 1),
		{Rect: r(0, 0, 1024, 1025), Data: make([]int, 1024*1025)},
	}
}

func expectApply(t *testing.T, p api.Plane, step, dead int, want api.Plane, e api.Errno) {
	t.Helper()
	if got, f := quant.Apply(p, step, dead); f != e || !plane.Same(got, want) {
		t.Errorf("Apply of %v with %d samples, %d, %d = %v, %d; expected %v, %d", p.Rect, len(p.Data), step, dead, got, f, want, e)
	}
}

// P8.7
func TestApply(t *testing.T) {
	pairs(func(step, dead int) {
		l := coefficients(step, dead)
		for _, rc := range []api.Rect{{}, r(7, 7, 7, 9), r(3, 2, 10, 7), r(4090, 4050, 4096, 4096), r(0, 5, len(l), 6)} {
			p, want := pl(rc, l[:rect.Area(rc)]...), pl(rc)
			for _, c := range p.Data {
				want.Data = append(want.Data, index(c, step, dead))
			}
			expectApply(t, p, step, dead, want, api.OK)
		}
	})
}

// P8.7
func TestApplyErrorsInTheirOrder(t *testing.T) {
	for _, bad := range broken() {
		pairs(func(step, dead int) { expectApply(t, bad, step, dead, api.Plane{}, api.ErrArg) })
		noPairs(func(step, dead int) { expectApply(t, bad, step, dead, api.Plane{}, api.ErrArg) })
	}
	for _, p := range []api.Plane{{}, pl(r(3, 2, 5, 4), 1, 2, 3, 4)} {
		noPairs(func(step, dead int) { expectApply(t, p, step, dead, api.Plane{}, api.ErrRange) })
	}
}

// R6
func TestPlanesShareNoMemory(t *testing.T) {
	behind := []int{1, -2, 3, -4, 5, -6, 7, -8}
	before := slices.Clone(behind)
	for _, step := range []int{1, 8} {
		got, e := quant.Apply(api.Plane{Rect: r(3, 2, 5, 4), Data: behind[:4]}, step, 16)
		if e != api.OK || len(got.Data) != 4 {
			t.Fatalf("Apply = %v, %d", got, e)
		}
		all := got.Data[:cap(got.Data)]
		for i := range all {
			all[i] = -12345
		}
		if !slices.Equal(behind, before) {
			t.Errorf("Apply shares memory with its argument: %v", behind)
		}
	}
}

// The examples of the chapter, and examples 3 and 4 of the document.
func TestExamples(t *testing.T) {
	for _, c := range []struct{ step, dead, want int }{{8, 16, 8}, {8, 32, 16}, {1, 8, 1}} {
		if n := quant.Threshold(c.step, c.dead); n != c.want {
			t.Errorf("Threshold(%d, %d) = %d", c.step, c.dead, n)
		}
	}
	for _, c := range []struct{ c, want int }{{7, 0}, {8, 1}, {15, 1}, {16, 2}, {-20, -2}} {
		if v := quant.Quantize(c.c, 8, 16); v != c.want {
			t.Errorf("Quantize(%d, 8, 16) = %d", c.c, v)
		}
	}
	for _, c := range []struct{ v, missing, step, dead, low, high int }{
		{2, 0, 8, 16, 16, 23}, {0, 0, 8, 32, -15, 15}, {4, 1, 1, 16, 4, 5}, {0, 3, 1, 16, -7, 7},
	} {
		if low, high := quant.Interval(c.v, c.missing, c.step, c.dead); low != c.low || high != c.high {
			t.Errorf("Interval(%d, %d, %d, %d) = %d, %d", c.v, c.missing, c.step, c.dead, low, high)
		}
	}
	for _, c := range []struct{ v, missing, step, dead, want int }{{2, 0, 8, 16, 19}, {-2, 0, 8, 16, -19}, {4, 1, 1, 16, 4}} {
		if n := quant.Reconstruct(c.v, c.missing, c.step, c.dead); n != c.want {
			t.Errorf("Reconstruct(%d, %d, %d, %d) = %d", c.v, c.missing, c.step, c.dead, n)
		}
	}
	if a, b := quant.Planes(255, 1, 16), quant.Planes(7, 8, 16); a != 8 || b != 0 {
		t.Errorf("Planes = %d and %d", a, b)
	}
	for _, c := range []struct{ v, missing, shift, wantV, wantM int }{{-40, 2, 3, -5, 0}, {6, 5, 3, 6, 3}, {8, 1, 3, 1, 0}} {
		if v, m := quant.Unscale(c.v, c.missing, c.shift); v != c.wantV || m != c.wantM {
			t.Errorf("Unscale(%d, %d, %d) = %d, %d", c.v, c.missing, c.shift, v, m)
		}
	}
}
