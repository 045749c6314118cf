package lift_test

import (
	"math"
	"math/rand/v2"
	"slices"
	"testing"

	"wavelet/api"
	"wavelet/extend"
	"wavelet/lift"
)

var kernels = []api.Kernel{api.Haar, api.LeGall, api.Binary97}

// strangers are kernels that are none.
var strangers = []api.Kernel{0, 4, -1, math.MinInt, math.MaxInt}

// outside are numbers that are not in [0, MaxSide].
var outside = []int{math.MinInt, -api.MaxSide, -2, -1, api.MaxSide + 1, api.MaxSide + 2, math.MaxInt}

// floor returns a / b, rounded down, for a positive b.
func floor(a, b int) int {
	q := a / b
	if q*b > a {
		q--
	}
	return q
}

// reflect returns the index from 0 to n - 1 that is reached by reflections about the ends.
func reflect(i, n int) int {
	for n > 1 && (i < 0 || i >= n) {
		if i < 0 {
			i = -i
		} else {
			i = 2*(n-1) - i
		}
	}
	return i
}

// table returns the subbands by the formulas of the chapter, number by number.
func table(x []int, start int, k api.Kernel) (low, high []int) {
	n := len(x)
	odd := func(i int) int {
		at := func(i int) int { return x[reflect(i-start, n)] }
		switch {
		case n == 1:
			return at(i)
		case k == api.Haar:
			return at(i) - at(i-1)
		case k == api.LeGall:
			return at(i) - floor(at(i-1)+at(i+1), 2)
		}
		return at(i) - floor(9*(at(i-1)+at(i+1))-(at(i-3)+at(i+3))+8, 16)
	}
	even := func(i int) int {
		d := func(i int) int { return odd(start + reflect(i-start, n)) }
		switch {
		case n == 1:
			return x[i-start]
		case k == api.Haar:
			return x[i-start] + floor(d(i+1), 2)
		}
		return x[i-start] + floor(d(i-1)+d(i+1)+2, 4)
	}
	for i := start; i < start+n; i++ {
		if i%2 == 0 {
			low = append(low, even(i))
		} else {
			high = append(high, odd(i))
		}
	}
	return low, high
}

// signals calls f for all signals of at most n samples with the values v.
func signals(n int, v []int, f func(x []int)) {
	var grow func(x []int)
	grow = func(x []int) {
		f(x)
		if len(x) == n {
			return
		}
		for _, s := range v {
			grow(append(slices.Clone(x), s))
		}
	}
	grow(nil)
}

// scattered returns n numbers from -b to b, the same for the same seed.
func scattered(seed uint64, n, b int) []int {
	r := rand.New(rand.NewPCG(seed, 1))
	x := make([]int, n)
	for i := range x {
		x[i] = r.IntN(2*b+1) - b
	}
	return x
}

// compare checks that the subbands of a signal are those of the formulas, and that they restore it.
func compare(t *testing.T, x []int, start int, k api.Kernel) {
	t.Helper()
	low, high, e := lift.Forward(x, start, k)
	wantLow, wantHigh := table(x, start, k)
	if e != api.OK || !slices.Equal(low, wantLow) || !slices.Equal(high, wantHigh) {
		t.Fatalf("Forward(%v, %d, %d) = %v, %v, %d; expected %v, %v", x, start, k, low, high, e, wantLow, wantHigh)
	}
	if back, e := lift.Inverse(low, high, start, k); e != api.OK || !slices.Equal(back, x) {
		t.Fatalf("Inverse(%v, %v, %d, %d) = %v, %d; expected %v", low, high, start, k, back, e, x)
	}
}

// P4.1, P4.2, P4.5
func TestSmallSignals(t *testing.T) {
	for _, k := range kernels {
		signals(6, []int{-9, -2, 0, 7}, func(x []int) {
			compare(t, x, 0, k)
			compare(t, x, 1, k)
		})
	}
}

// P4.1, P4.2, P4.5
func TestLongerSignals(t *testing.T) {
	for _, k := range kernels {
		for n := 7; n <= 40; n++ {
			for _, start := range []int{0, 1, 6, 13, api.MaxSide - 1, api.MaxSide} {
				compare(t, scattered(uint64(n*100+start), n, 300), start, k)
			}
		}
	}
}

// P4.1, P4.2
func TestSingleSamplesAndNone(t *testing.T) {
	for _, k := range kernels {
		for _, start := range []int{0, 1, 4, 5, api.MaxSide - 1, api.MaxSide} {
			if low, high, e := lift.Forward(nil, start, k); len(low) != 0 || len(high) != 0 || e != api.OK {
				t.Errorf("Forward of nothing from %d, kernel %d = %v, %v, %d", start, k, low, high, e)
			}
			if x, e := lift.Inverse(nil, []int{}, start, k); len(x) != 0 || e != api.OK {
				t.Errorf("Inverse of nothing from %d, kernel %d = %v, %d", start, k, x, e)
			}
			for _, v := range []int{-api.MaxValue, -3, 0, 1, 6, api.MaxValue} {
				wantLow, wantHigh := []int{v}, []int(nil)
				if start%2 != 0 {
					wantLow, wantHigh = nil, []int{v}
				}
				low, high, e := lift.Forward([]int{v}, start, k)
				if !slices.Equal(low, wantLow) || !slices.Equal(high, wantHigh) || e != api.OK {
					t.Errorf("Forward(%d; %d, %d) = %v, %v, %d", v, start, k, low, high, e)
				}
				if x, e := lift.Inverse(wantLow, wantHigh, start, k); !slices.Equal(x, []int{v}) || e != api.OK {
					t.Errorf("Inverse(%v, %v, %d, %d) = %v, %d", wantLow, wantHigh, start, k, x, e)
				}
			}
		}
	}
}

// P4.1, P4.2
func TestTheLongestSignals(t *testing.T) {
	for _, k := range kernels {
		for _, start := range []int{0, 1, api.MaxSide - 1, api.MaxSide} {
			x := scattered(uint64(start), api.MaxSide, api.MaxValue)
			low, high, e := lift.Forward(x, start, k)
			if e != api.OK || len(low) != 2048 || len(high) != 2048 {
				t.Fatalf("Forward of %d samples from %d, kernel %d: %d and %d numbers, error %d", len(x), start, k, len(low), len(high), e)
			}
			if back, e := lift.Inverse(low, high, start, k); e != api.OK || !slices.Equal(back, x) {
				t.Errorf("Inverse of %d numbers from %d, kernel %d: error %d, or another signal", len(x), start, k, e)
			}
		}
	}
}

// P4.1
func TestForwardErrorsInTheirOrder(t *testing.T) {
	check := func(x []int, start int, k api.Kernel, want api.Errno) {
		t.Helper()
		low, high, e := lift.Forward(x, start, k)
		if e != want || e != api.OK && (len(low) != 0 || len(high) != 0) {
			t.Errorf("Forward of %d samples from %d, kernel %d: %d and %d numbers, error %d; expected %d", len(x), start, k, len(low), len(high), e, want)
		}
	}
	tooMany := make([]int, api.MaxSide+1)
	tooLarge := [][]int{
		{api.MaxValue + 1}, {-api.MaxValue - 1}, {math.MinInt}, {math.MaxInt},
		{0, 0, math.MinInt}, {api.MaxValue + 1, 0}, {1, -api.MaxValue - 1, 2},
	}
	for _, k := range kernels {
		check([]int{api.MaxValue, -api.MaxValue, api.MaxValue}, 0, k, api.OK)
		check(tooMany[1:], api.MaxSide, k, api.OK)
		check(tooMany, 0, k, api.ErrRange)
		check(tooMany, 1, k, api.ErrRange)
		for _, x := range tooLarge {
			check(x, 0, k, api.ErrRange)
			check(x, 1, k, api.ErrRange)
		}
		for _, start := range outside {
			check(nil, start, k, api.ErrRange)
			check([]int{1}, start, k, api.ErrRange)
			check([]int{1, 2, 3}, start, k, api.ErrRange)
			check(tooMany, start, k, api.ErrRange)
		}
	}
	for _, k := range strangers {
		check(nil, 0, k, api.ErrKind)
		check([]int{1, 2, 3}, 0, k, api.ErrKind)
		check([]int{1, 2, 3}, -1, k, api.ErrKind)
		check(tooMany, 0, k, api.ErrKind)
		check(tooLarge[0], 0, k, api.ErrKind)
	}
}

// P4.2
func TestInverseOfAnyNumbers(t *testing.T) {
	for _, k := range kernels {
		for n := 2; n <= 24; n++ {
			for start := range 2 {
				even, odd := extend.Counts(start, n)
				low, high := scattered(uint64(n), even, 4*api.MaxValue), scattered(uint64(n+99), odd, 4*api.MaxValue)
				x, e := lift.Inverse(low, high, start, k)
				if e != api.OK || len(x) != n {
					t.Fatalf("Inverse(%v, %v, %d, %d) = %v, %d", low, high, start, k, x, e)
				}
				// The formulas have one solution, so that it is enough to check them.
				wantLow, wantHigh := table(x, start, k)
				if !slices.Equal(low, wantLow) || !slices.Equal(high, wantHigh) {
					t.Fatalf("Inverse(%v, %v, %d, %d) = %v, whose subbands are %v, %v", low, high, start, k, x, wantLow, wantHigh)
				}
			}
		}
	}
}

// P4.2
func TestInverseErrorsInTheirOrder(t *testing.T) {
	const most = 4 * api.MaxValue
	check := func(low, high []int, start int, k api.Kernel, want api.Errno) {
		t.Helper()
		x, e := lift.Inverse(low, high, start, k)
		if e != want || e != api.OK && len(x) != 0 {
			t.Errorf("Inverse of %d and %d numbers from %d, kernel %d: %d samples, error %d; expected %d", len(low), len(high), start, k, len(x), e, want)
		}
	}
	half := make([]int, api.MaxSide/2)
	more := make([]int, api.MaxSide/2+1)
	for _, k := range kernels {
		check([]int{most, -most}, []int{-most, most}, 0, k, api.OK)
		check([]int{-most}, nil, 0, k, api.OK)
		check(half, half, api.MaxSide, k, api.OK)
		check(half, more, 1, k, api.ErrRange)
		check(more, half, 0, k, api.ErrRange)
		check(more, half[1:], 0, k, api.ErrLength)
		check(nil, make([]int, api.MaxSide+1), 0, k, api.ErrRange)
		for _, v := range []int{most + 1, -most - 1, math.MinInt, math.MaxInt} {
			check([]int{1, v}, []int{2}, 0, k, api.ErrRange)
			check([]int{1}, []int{2, v}, 1, k, api.ErrRange)
			check([]int{v}, nil, 0, k, api.ErrRange)
			check(nil, []int{v}, 1, k, api.ErrRange)
			// These have a wrong length, too.
			check([]int{v}, nil, 1, k, api.ErrRange)
			check(nil, []int{1, v, 2}, 0, k, api.ErrRange)
			check([]int{v, 1, 2}, []int{3}, 0, k, api.ErrRange)
		}
		for _, start := range outside {
			check(nil, nil, start, k, api.ErrRange)
			check([]int{1}, []int{2}, start, k, api.ErrRange)
			check([]int{1, 2, 3}, nil, start, k, api.ErrRange)
			check(more, half, start, k, api.ErrRange)
		}
	}
	for _, k := range strangers {
		check(nil, nil, 0, k, api.ErrKind)
		check([]int{1}, []int{2}, 0, k, api.ErrKind)
		check([]int{1}, []int{2}, -1, k, api.ErrKind)
		check([]int{1, 2, 3}, nil, 0, k, api.ErrKind)
		check([]int{math.MinInt}, nil, 0, k, api.ErrKind)
		check(more, half, 0, k, api.ErrKind)
	}
}

// P4.2
func TestInverseNeedsTheCountsOfTheSubbands(t *testing.T) {
	for _, k := range kernels {
		for start := range 4 {
			for a := range 6 {
				for b := range 6 {
					even, odd := extend.Counts(start, a+b)
					want := api.ErrLength
					if a == even && b == odd {
						want = api.OK
					}
					if x, e := lift.Inverse(make([]int, a), make([]int, b), start, k); e != want || e != api.OK && len(x) != 0 {
						t.Errorf("Inverse of %d and %d numbers from %d, kernel %d = %v, %d; expected %d", a, b, start, k, x, e, want)
					}
				}
			}
		}
	}
}

// P4.3
func TestMargin(t *testing.T) {
	for _, c := range []struct {
		k      api.Kernel
		margin int
	}{{api.Haar, 2}, {api.LeGall, 2}, {api.Binary97, 4}} {
		if m := lift.Margin(c.k); m != c.margin {
			t.Errorf("Margin(%d) = %d; expected %d", c.k, m, c.margin)
		}
	}
	for _, k := range strangers {
		if m := lift.Margin(k); m != 0 {
			t.Errorf("Margin(%d) = %d", k, m)
		}
	}
}

// restored returns the signal whose subbands are at the even and the odd indices of l.
func restored(t *testing.T, l []int, start int, k api.Kernel) []int {
	t.Helper()
	low, high, e := extend.Split(l, start)
	if e != api.OK {
		t.Fatalf("Split(%v, %d): error %d", l, start, e)
	}
	x, e := lift.Inverse(low, high, start, k)
	if e != api.OK {
		t.Fatalf("Inverse(%v, %v, %d, %d): error %d", low, high, start, k, e)
	}
	return x
}

// P4.3
func TestSamplesDependOnNumbersWithinTheMargin(t *testing.T) {
	for _, k := range kernels {
		for n := 1; n <= 16; n++ {
			for start := range 2 {
				l := scattered(uint64(n), n, 1000)
				before := restored(t, l, start, k)
				for i := range l {
					changed := slices.Clone(l)
					changed[i] += 64
					after := restored(t, changed, start, k)
					for j := range after {
						if distance := max(i-j, j-i); distance > lift.Margin(k) && after[j] != before[j] {
							t.Errorf("kernel %d, %d samples from %d: the one at %d depends on the number at %d", k, n, start, start+j, start+i)
						}
					}
				}
			}
		}
	}
}

// P4.4
func TestBounds(t *testing.T) {
	const m = api.MaxValue
	for _, c := range []struct {
		k            api.Kernel
		b, low, high int
	}{
		{api.Haar, 0, 0, 0}, {api.Haar, 1, 2, 2}, {api.Haar, 7, 14, 14}, {api.Haar, m, 2 * m, 2 * m},
		{api.LeGall, 0, 0, 0}, {api.LeGall, 1, 2, 2}, {api.LeGall, 7, 14, 14}, {api.LeGall, m - 1, 2*m - 2, 2*m - 2}, {api.LeGall, m, 2 * m, 2 * m},
		{api.Binary97, 0, 0, 0}, {api.Binary97, 1, 2, 2}, {api.Binary97, 2, 5, 5}, {api.Binary97, 3, 7, 7}, {api.Binary97, 4, 9, 9},
		{api.Binary97, 5, 11, 11}, {api.Binary97, 6, 13, 14}, {api.Binary97, 7, 15, 16}, {api.Binary97, 10, 22, 23},
		{api.Binary97, m, m / 8 * 17, m / 4 * 9},
	} {
		if low, high := lift.LowBound(c.b, c.k), lift.HighBound(c.b, c.k); low != c.low || high != c.high {
			t.Errorf("LowBound and HighBound of %d, kernel %d = %d, %d; expected %d, %d", c.b, c.k, low, high, c.low, c.high)
		}
	}
	for b := range 1000 {
		high := b + floor(20*b+8, 16)
		if low := b + floor(2*high+2, 4); lift.LowBound(b, api.Binary97) != low || lift.HighBound(b, api.Binary97) != high {
			t.Errorf("LowBound and HighBound of %d, kernel Binary97 = %d, %d; expected %d, %d", b, lift.LowBound(b, api.Binary97), lift.HighBound(b, api.Binary97), low, high)
		}
		if low := b + floor(4*b+2, 4); lift.LowBound(b, api.LeGall) != low || lift.HighBound(b, api.LeGall) != 2*b {
			t.Errorf("LowBound and HighBound of %d, kernel LeGall = %d, %d; expected %d, %d", b, lift.LowBound(b, api.LeGall), lift.HighBound(b, api.LeGall), low, 2*b)
		}
	}
}

// P4.4
func TestBoundsOfInvalidArguments(t *testing.T) {
	for _, k := range kernels {
		for _, b := range []int{math.MinInt, -api.MaxValue, -2, -1, api.MaxValue + 1, api.MaxValue + 2, math.MaxInt} {
			if low, high := lift.LowBound(b, k), lift.HighBound(b, k); low != 0 || high != 0 {
				t.Errorf("LowBound and HighBound of %d, kernel %d = %d, %d", b, k, low, high)
			}
		}
	}
	for _, k := range strangers {
		for _, b := range []int{math.MinInt, -1, 0, 1, 10, api.MaxValue, math.MaxInt} {
			if low, high := lift.LowBound(b, k), lift.HighBound(b, k); low != 0 || high != 0 {
				t.Errorf("LowBound and HighBound of %d, kernel %d = %d, %d", b, k, low, high)
			}
		}
	}
}

// P4.5
func TestForwardInvertsInverse(t *testing.T) {
	for _, k := range kernels {
		signals(5, []int{-5, 0, 3, 8}, func(l []int) {
			for start := range 2 {
				low, high, _ := extend.Split(l, start)
				x := restored(t, l, start, k)
				a, b, e := lift.Forward(x, start, k)
				if e != api.OK || !slices.Equal(a, low) || !slices.Equal(b, high) {
					t.Fatalf("Forward(%v, %d, %d) = %v, %v, %d; expected %v, %v", x, start, k, a, b, e, low, high)
				}
			}
		})
	}
}

// P4.6
func TestSubbandsAreWithinTheBounds(t *testing.T) {
	above := func(l []int, bound int) bool {
		return slices.ContainsFunc(l, func(v int) bool { return v < -bound || v > bound })
	}
	for _, k := range kernels {
		for _, b := range []int{0, 1, 2, 3, 10, api.MaxValue - 1, api.MaxValue} {
			lowBound, highBound := lift.LowBound(b, k), lift.HighBound(b, k)
			signals(9, []int{-b, b}, func(x []int) {
				for start := range 2 {
					low, high, e := lift.Forward(x, start, k)
					if e != api.OK || above(low, lowBound) || above(high, highBound) {
						t.Fatalf("Forward(%v, %d, %d) = %v, %v, %d; the bounds are %d and %d", x, start, k, low, high, e, lowBound, highBound)
					}
				}
			})
		}
	}
}

// P4.7
func TestEqualSamples(t *testing.T) {
	for _, k := range kernels {
		for _, v := range []int{-api.MaxValue, -7, -1, 0, 1, 2, 1000, api.MaxValue} {
			for n := 2; n <= 9; n++ {
				for start := range 2 {
					low, high, e := lift.Forward(slices.Repeat([]int{v}, n), start, k)
					even, odd := extend.Counts(start, n)
					if e != api.OK || !slices.Equal(low, slices.Repeat([]int{v}, even)) || !slices.Equal(high, make([]int, odd)) {
						t.Errorf("Forward of %d samples %d from %d, kernel %d = %v, %v, %d", n, v, start, k, low, high, e)
					}
				}
			}
		}
	}
}

// P4.7
func TestOnlyTheParityOfTheStartMatters(t *testing.T) {
	for _, k := range kernels {
		for n := range 12 {
			x := scattered(uint64(n), n, 50)
			for _, start := range []int{0, 1, 2, 7, 1023, api.MaxSide - 3, api.MaxSide - 2} {
				low, high, e := lift.Forward(x, start, k)
				a, b, f := lift.Forward(x, start+2, k)
				if e != api.OK || f != api.OK || !slices.Equal(low, a) || !slices.Equal(high, b) {
					t.Errorf("Forward(%v, .., %d) = %v, %v, %d from %d and %v, %v, %d from %d", x, k, low, high, e, start, a, b, f, start+2)
				}
			}
		}
	}
}

// overwrite stores a mark into a slice and the capacity behind it.
func overwrite(l []int) {
	for i := range l[:cap(l)] {
		l[:cap(l)][i] = -12345
	}
}

// R6
func TestArgumentsAndResultsAreKeptApart(t *testing.T) {
	for _, k := range kernels {
		for n := range 7 {
			for start := range 2 {
				behind := scattered(uint64(n), 16, 50)
				before := slices.Clone(behind)
				low, high, _ := lift.Forward(behind[:n], start, k)
				a, b := slices.Clone(low), slices.Clone(high)
				overwrite(low)
				if !slices.Equal(high, b) {
					t.Errorf("kernel %d, %d samples: the subbands share memory", k, n)
				}
				overwrite(high)
				bands := append(append(slices.Clone(a), b...), 1, 2, 3)
				bandsBefore := slices.Clone(bands)
				x, e := lift.Inverse(bands[:len(a)], bands[len(a):n], start, k)
				if e != api.OK || !slices.Equal(x, before[:n]) {
					t.Errorf("Inverse(%v, %v, %d, %d) = %v, %d", a, b, start, k, x, e)
				}
				overwrite(x)
				if !slices.Equal(behind, before) || !slices.Equal(bands, bandsBefore) {
					t.Errorf("kernel %d, %d samples: an argument was changed", k, n)
				}
			}
		}
	}
}

// The examples of the chapter, and example 2 of the document.
func TestExamples(t *testing.T) {
	for _, c := range []struct {
		x         []int
		start     int
		k         api.Kernel
		low, high []int
	}{
		{[]int{1, 2, 3, 4}, 0, api.LeGall, []int{1, 3}, []int{0, 1}},
		{[]int{5, 9}, 1, api.Haar, []int{7}, []int{-4}},
		{[]int{16, 0, 0, 0}, 0, api.Binary97, []int{12, -2}, []int{-9, 2}},
		{[]int{-3}, 5, api.Haar, nil, []int{-3}},
	} {
		low, high, e := lift.Forward(c.x, c.start, c.k)
		if !slices.Equal(low, c.low) || !slices.Equal(high, c.high) || e != api.OK {
			t.Errorf("Forward(%v, %d, %d) = %v, %v, %d; expected %v, %v", c.x, c.start, c.k, low, high, e, c.low, c.high)
		}
		if x, e := lift.Inverse(c.low, c.high, c.start, c.k); !slices.Equal(x, c.x) || e != api.OK {
			t.Errorf("Inverse(%v, %v, %d, %d) = %v, %d; expected %v", c.low, c.high, c.start, c.k, x, e, c.x)
		}
	}
	if x, e := lift.Inverse([]int{7, 8}, []int{9}, 1, api.Haar); len(x) != 0 || e != api.ErrLength {
		t.Errorf("Inverse(7, 8; 9; 1, Haar) = %v, %d", x, e)
	}
	if high, low := lift.HighBound(10, api.Binary97), lift.LowBound(10, api.Binary97); high != 23 || low != 22 {
		t.Errorf("the bounds of 10, kernel Binary97, are %d and %d", high, low)
	}
}
