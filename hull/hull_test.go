package hull_test

import (
	"math"
	"math/big"
	"math/rand/v2"
	"slices"
	"testing"

	"wavelet/api"
	"wavelet/hull"
)

const (
	mostDist  = 1 << 46
	mostRate  = 65535
	mostCount = 179 // points of a curve
)

func curve(rates, dists []int) api.Curve { return api.Curve{Rates: rates, Dists: dists} }

// level returns a curve of so many points, all of which have the same distortion and no rate.
func level(n, dist int) api.Curve { return curve(make([]int, n), slices.Repeat([]int{dist}, n)) }

// validCurves are curves at the ends of what is valid.
func validCurves() []api.Curve {
	l := []api.Curve{
		curve([]int{0}, []int{0}), curve([]int{0}, []int{mostDist}), curve([]int{0, 0}, []int{0, mostDist}), curve([]int{0, 0}, []int{mostDist, 0}),
		curve([]int{0, mostRate}, []int{mostDist, 0}), curve([]int{0, mostRate}, []int{0, mostDist}), curve([]int{0, mostRate, mostRate}, []int{3, mostDist, mostDist}),
		curve([]int{0, 1, 1, 2}, []int{5, 9, 2, 2}), level(mostCount, mostDist), level(mostCount-1, 0),
	}
	long := level(mostCount, 1)
	long.Rates[mostCount-1] = mostRate
	return append(l, long)
}

// invalidCurves are curves each of which has another fault.
func invalidCurves() []api.Curve {
	l := []api.Curve{
		{}, curve([]int{}, []int{}), curve([]int{0}, nil), curve(nil, []int{0}), curve([]int{0, 1}, []int{5}), curve([]int{0}, []int{5, 4}), curve(make([]int, mostCount), make([]int, mostCount-1)),
		level(mostCount+1, 0), level(mostCount+2, 7), level(5000, 7), curve(make([]int, mostCount+1), make([]int, mostCount)), curve(make([]int, mostCount), make([]int, mostCount+1)),
		curve([]int{0, 1, 0}, []int{3, 2, 1}), curve([]int{0, 5, 4, 6}, []int{4, 3, 2, 1}), curve([]int{0, 5, 6, 5}, []int{4, 3, 2, 1}), curve([]int{0, 0, -1}, []int{4, 3, 2}), curve([]int{0, 9, math.MinInt}, []int{3, 2, 1}),
	}
	for _, rate := range []int{math.MinInt, -mostRate, -1, 1, mostRate, math.MaxInt} {
		l = append(l, curve([]int{rate}, []int{5}), curve([]int{rate, rate}, []int{5, 4}))
	}
	for _, rate := range []int{-1, mostRate + 1, 1 << 32, math.MinInt, math.MaxInt} {
		l = append(l, curve([]int{0, rate}, []int{5, 4}), curve([]int{0, 3, rate}, []int{5, 4, 4}), curve([]int{0, rate, rate}, []int{5, 4, 4}))
	}
	for _, dist := range []int{math.MinInt, -1 << 46, -1, mostDist + 1, 1 << 47, math.MaxInt} {
		l = append(l, curve([]int{0}, []int{dist}), curve([]int{0, 1}, []int{dist, 2}), curve([]int{0, 1, 2}, []int{7, dist, 2}), curve([]int{0, 1, 2}, []int{7, 5, dist}))
	}
	return l
}

// P20.1
func TestValid(t *testing.T) {
	for _, c := range validCurves() {
		if !hull.Valid(c) {
			t.Errorf("%v is not valid", c)
		}
	}
	for _, c := range invalidCurves() {
		if hull.Valid(c) {
			t.Errorf("%v is valid", c)
		}
	}
}

// P20.1: each point of the longest curve counts.
func TestEachPointCounts(t *testing.T) {
	for i := range mostCount {
		for _, spoil := range []func(c api.Curve){
			func(c api.Curve) { c.Rates[i]-- },
			func(c api.Curve) { c.Rates[i] = mostRate + 1 },
			func(c api.Curve) { c.Dists[i] = -1 },
			func(c api.Curve) { c.Dists[i] = mostDist + 1 },
		} {
			c := level(mostCount, 9)
			if !hull.Valid(c) {
				t.Fatal("a level curve is not valid")
			}
			spoil(c)
			if hull.Valid(c) || len(hull.Points(c)) != 0 || hull.Best(c, 1, 1) != -1 {
				t.Errorf("%v is valid", c)
			}
		}
	}
}

// slope returns a fall divided by an increase, or nil if the slope is infinite.
func slope(d, r int) *big.Rat {
	switch {
	case r > 0:
		return big.NewRat(int64(d), int64(r))
	case d > 0:
		return nil
	}
	return new(big.Rat)
}

// steeper compares two slopes by the definition of the chapter.
func steeper(a, b *big.Rat) int {
	switch {
	case a == nil && b == nil:
		return 0
	case a == nil:
		return 1
	case b == nil:
		return -1
	}
	return a.Cmp(b)
}

// fall is the argument of a slope.
type fall struct{ d, r int }

// falls are arguments of slopes, those at the ends of their ranges included.
func falls() []fall {
	var l []fall
	for _, d := range []int{0, 1, 2, 3, 65534, 65535, 65536, 1<<30 - 1, 1 << 30, 1 << 45, 1<<46 - 65535, mostDist - 1, mostDist} {
		for _, r := range []int{0, 1, 2, 3, 4, 255, 32767, 32768, mostRate - 1, mostRate} {
			l = append(l, fall{d, r})
		}
	}
	return l
}

// P20.2, P20.5
func TestSteeper(t *testing.T) {
	for _, a := range falls() {
		for _, b := range falls() {
			want := steeper(slope(a.d, a.r), slope(b.d, b.r))
			n, back := hull.Steeper(a.d, a.r, b.d, b.r), hull.Steeper(b.d, b.r, a.d, a.r)
			if n != want || back != -want {
				t.Errorf("Steeper of %v and %v is %d, and %d the other way; expected %d", a, b, n, back, want)
			}
		}
	}
}

// P20.2, P20.5: slopes that are nearly equal, and equal ones.
func TestSteeperOfSimilarSlopes(t *testing.T) {
	source := rand.New(rand.NewPCG(20, 1))
	for range 20000 {
		d, r := source.IntN(1<<source.IntN(38)+1), 1+source.IntN(255)
		f, g := 1+source.IntN(255), 1+source.IntN(255)
		a := fall{d * f, r * f}
		if n := hull.Steeper(a.d, a.r, d*g, r*g); n != 0 {
			t.Fatalf("Steeper of %v and %d times %d/%d is %d", a, g, d, r, n)
		}
		for _, change := range []int{-2, -1, 1, 2} {
			b := fall{max(0, d*g+change), r * g}
			if n, want := hull.Steeper(a.d, a.r, b.d, b.r), steeper(slope(a.d, a.r), slope(b.d, b.r)); n != want {
				t.Fatalf("Steeper of %v and %v is %d; expected %d", a, b, n, want)
			}
		}
	}
}

// P20.2
func TestSteeperOutOfRange(t *testing.T) {
	noFalls := []int{math.MinInt, -1 << 46, -2, -1, mostDist + 1, 1 << 47, 1 << 62, math.MaxInt}
	noRates := []int{math.MinInt, -65536, -65535, -1, mostRate + 1, 1 << 32, 1<<32 + 1, math.MaxInt}
	for _, a := range falls() {
		for _, b := range []fall{{0, 0}, {0, 3}, {7, 0}, {5, 1}, {mostDist, mostRate}} {
			for i, d := range noFalls {
				r := noRates[i]
				for _, n := range []int{
					hull.Steeper(d, a.r, b.d, b.r), hull.Steeper(a.d, r, b.d, b.r), hull.Steeper(d, r, b.d, b.r),
					hull.Steeper(b.d, b.r, d, a.r), hull.Steeper(b.d, b.r, a.d, r), hull.Steeper(b.d, b.r, d, r), hull.Steeper(d, r, d, r),
				} {
					if n != 0 {
						t.Fatalf("Steeper of %v and %v, one of them with %d or %d, is %d", a, b, d, r, n)
					}
				}
			}
		}
	}
}

// P20.5
func TestSlopesAreOrdered(t *testing.T) {
	l := falls()
	for i := 0; i < len(l); i += 2 {
		for _, b := range l {
			for _, c := range l {
				a := l[i]
				if hull.Steeper(a.d, a.r, b.d, b.r) >= 0 && hull.Steeper(b.d, b.r, c.d, c.r) >= 0 && hull.Steeper(a.d, a.r, c.d, c.r) < 0 {
					t.Fatalf("%v, %v and %v have no order", a, b, c)
				}
			}
		}
	}
}

// between returns the slope from a point to a later one.
func between(c api.Curve, i, j int) *big.Rat {
	return slope(c.Dists[i]-c.Dists[j], c.Rates[j]-c.Rates[i])
}

// model returns the hull of the definition.
func model(c api.Curve) []int {
	points := []int{0}
	for i := 0; ; i = points[len(points)-1] {
		var candidates []int
		for j := i + 1; j < len(c.Dists); j++ {
			if c.Dists[j] < c.Dists[i] {
				candidates = append(candidates, j)
			}
		}
		if len(candidates) == 0 {
			return points
		}
		slices.SortStableFunc(candidates, func(j, k int) int {
			if n := steeper(between(c, i, k), between(c, i, j)); n != 0 {
				return n
			}
			return c.Dists[j] - c.Dists[k]
		})
		points = append(points, candidates[0])
	}
}

// P20.6: checkHull checks the consequences for the hull of a curve.
func checkHull(t *testing.T, c api.Curve, points []int) {
	t.Helper()
	for n, i := range points {
		if n+1 == len(points) {
			if c.Dists[i] != slices.Min(c.Dists) {
				t.Fatalf("%v: the last point of the hull %v has not the least distortion", c, points)
			}
			return
		}
		j := points[n+1]
		if i >= j || c.Rates[i] > c.Rates[j] || c.Dists[i] <= c.Dists[j] {
			t.Fatalf("%v: the points %d and %d of the hull %v are out of order", c, i, j, points)
		}
		down := between(c, i, j)
		if n > 0 && steeper(between(c, points[n-1], i), down) <= 0 {
			t.Fatalf("%v: the slope to the point %d of the hull %v does not decrease", c, j, points)
		}
		for k := range c.Dists {
			if c.Rates[i] <= c.Rates[k] && c.Rates[k] <= c.Rates[j] && c.Dists[k] < c.Dists[i] && steeper(between(c, i, k), down) > 0 {
				t.Fatalf("%v: the point %d lies below the hull %v", c, k, points)
			}
		}
	}
}

// cost returns r * distortion + d * rate of a point.
func cost(c api.Curve, i, d, r int) *big.Int {
	dist := new(big.Int).Mul(big.NewInt(int64(r)), big.NewInt(int64(c.Dists[i])))
	rate := new(big.Int).Mul(big.NewInt(int64(d)), big.NewInt(int64(c.Rates[i])))
	return dist.Add(dist, rate)
}

// checkBest checks Best for a price against the definition, and that it is a point of the hull.
func checkBest(t *testing.T, c api.Curve, points []int, d, r int) int {
	t.Helper()
	want := 0
	for i := range c.Dists {
		if cost(c, i, d, r).Cmp(cost(c, want, d, r)) < 0 {
			want = i
		}
	}
	n := hull.Best(c, d, r)
	if n != want || !slices.Contains(points, n) {
		t.Fatalf("%v: Best for the price %d/%d is %d; expected %d; the hull is %v", c, d, r, n, want, points)
	}
	return n
}

// checkCurve checks Points and Best of a valid curve for its own slopes and other prices.
func checkCurve(t *testing.T, c api.Curve, prices []fall) {
	t.Helper()
	points := hull.Points(c)
	if want := model(c); !slices.Equal(points, want) {
		t.Fatalf("%v: the hull is %v; expected %v", c, points, want)
	}
	checkHull(t, c, points)
	for n, i := range points[1:] {
		before := points[n]
		d, r := c.Dists[before]-c.Dists[i], c.Rates[i]-c.Rates[before]
		if r > 0 && checkBest(t, c, points, d, r) != before {
			t.Fatalf("%v: Best for the slope from the point %d of the hull %v is another one", c, before, points)
		}
	}
	for _, r := range []int{1, 7, mostRate} {
		if last := points[len(points)-1]; checkBest(t, c, points, 0, r) != last {
			t.Fatalf("%v: Best for the price 0 is not %d", c, last)
		}
	}
	for _, p := range prices {
		checkBest(t, c, points, p.d, p.r)
	}
}

// small calls f for all curves of up to so many points with small increases of the rate and small distortions.
func small(points int, f func(c api.Curve)) {
	var extend func(c api.Curve)
	extend = func(c api.Curve) {
		n := len(c.Rates)
		if n > 0 {
			f(c)
		}
		if n == points {
			return
		}
		for rise := range 3 {
			last := 0
			if n > 0 {
				last = c.Rates[n-1]
			} else if rise > 0 {
				return
			}
			for dist := range 5 {
				extend(curve(append(slices.Clone(c.Rates), last+rise), append(slices.Clone(c.Dists), dist)))
			}
		}
	}
	extend(api.Curve{})
}

// P20.3, P20.4, P20.6, P20.7
func TestSmallCurves(t *testing.T) {
	small(4, func(c api.Curve) { checkCurve(t, c, []fall{{1, 3}, {1, 2}, {1, 1}, {3, 2}, {2, 1}, {4, 1}, {5, 1}}) })
}

// random returns a curve with rates and distortions up to the given ones; they are often equal to neighboring ones.
func random(source *rand.Rand, n, rate, dist int) api.Curve {
	c := level(n, 0)
	falling := source.IntN(3) > 0
	for i := range n {
		c.Rates[i], c.Dists[i] = source.IntN(rate+1), source.IntN(dist+1)
		if i > 0 && source.IntN(4) == 0 {
			c.Rates[i], c.Dists[i] = c.Rates[i-1], c.Dists[i-1]
		}
	}
	c.Rates[0] = 0
	slices.Sort(c.Rates)
	if falling {
		slices.SortFunc(c.Dists, func(a, b int) int { return b - a })
	}
	return c
}

// prices returns some prices, those at the ends of their ranges included.
func prices(source *rand.Rand) []fall {
	l := []fall{{0, 1}, {0, mostRate}, {mostDist, 1}, {mostDist, mostRate}, {1, mostRate}, {1, 1}}
	for range 8 {
		l = append(l, fall{source.IntN(1<<source.IntN(47) + 1), 1 + source.IntN(mostRate)})
	}
	return l
}

// P20.3, P20.4, P20.6, P20.7
func TestRandomCurves(t *testing.T) {
	source := rand.New(rand.NewPCG(20, 2))
	for i := range 3000 {
		n := 1 + source.IntN(12)
		if i%20 == 0 {
			n = mostCount - source.IntN(3)
		}
		checkCurve(t, random(source, n, source.IntN(1<<source.IntN(17)), source.IntN(1<<source.IntN(47)+1)), prices(source))
	}
}

// convex returns a curve whose points all lie on the hull, with the slopes from n-1 down to 1.
func convex(n int) api.Curve {
	c := level(n, 0)
	for i := range n {
		c.Rates[i], c.Dists[i] = i, (n-i)*(n-i-1)/2
	}
	return c
}

// P20.3, P20.4, P20.6, P20.7: curves at the ends of their ranges.
func TestCurvesAtTheLimits(t *testing.T) {
	source := rand.New(rand.NewPCG(20, 3))
	for _, c := range validCurves() {
		checkCurve(t, c, prices(source))
	}
	c := convex(mostCount)
	if points := hull.Points(c); len(points) != mostCount {
		t.Errorf("a convex curve has the hull %v", points)
	}
	checkCurve(t, c, prices(source))
	// The sum of both products is greatest for one point and least for the other.
	for _, rate := range []int{1, mostRate - 1, mostRate} {
		for _, dist := range []int{0, 1, mostDist - 1, mostDist} {
			checkCurve(t, curve([]int{0, rate, mostRate}, []int{mostDist, dist, mostDist}), append(falls()[1:4], prices(source)...))
		}
	}
}

// collinear returns a curve whose slopes are all equal.
func collinear(n, rise, drop int) api.Curve {
	c := level(n, 0)
	for i := range n {
		c.Rates[i], c.Dists[i] = rise*i, drop*(n-1-i)
	}
	return c
}

// P20.3, P20.4: of equal slopes the hull takes the last point, and Best the first one.
func TestEqualSlopes(t *testing.T) {
	for _, n := range []int{2, 3, 10, mostCount} {
		for _, rise := range []int{1, 3, mostRate / (mostCount - 1)} {
			for _, drop := range []int{1, 5, mostDist / (mostCount - 1)} {
				c := collinear(n, rise, drop)
				if points := hull.Points(c); !slices.Equal(points, []int{0, n - 1}) {
					t.Errorf("%v: the hull is %v", c, points)
				}
				if a, b, last := hull.Best(c, drop, rise), hull.Best(c, drop+1, rise), hull.Best(c, drop-1, rise); a != 0 || b != 0 || last != n-1 {
					t.Errorf("%v: Best is %d, %d and %d", c, a, b, last)
				}
			}
		}
		flat := collinear(n, 0, 4) // all falls are infinitely steep
		if points := hull.Points(flat); !slices.Equal(points, []int{0, n - 1}) {
			t.Errorf("%v: the hull is %v", flat, points)
		}
	}
}

// P20.3, P20.4: of points with the same slope and distortion the first one counts.
func TestEqualPoints(t *testing.T) {
	for _, c := range []struct {
		c      api.Curve
		points []int
	}{
		{curve([]int{0, 0, 0}, []int{5, 5, 5}), []int{0}}, {curve([]int{0, 0, 0, 0}, []int{5, 5, 3, 3}), []int{0, 2}}, {curve([]int{0, 4, 4, 4}, []int{5, 3, 3, 3}), []int{0, 1}},
		{curve([]int{0, 4, 4, 9}, []int{5, 4, 3, 3}), []int{0, 2}}, {curve([]int{0, 2, 2, 4, 4, 8}, []int{9, 5, 5, 1, 1, 1}), []int{0, 3}}, {curve([]int{0, 1, 2}, []int{5, 6, 7}), []int{0}},
	} {
		checkCurve(t, c.c, nil)
		if points := hull.Points(c.c); !slices.Equal(points, c.points) {
			t.Errorf("%v: the hull is %v; expected %v", c.c, points, c.points)
		}
	}
}

// P20.3, P20.4
func TestInvalidCurves(t *testing.T) {
	for _, c := range invalidCurves() {
		if points := hull.Points(c); len(points) != 0 {
			t.Errorf("%v: the hull is %v", c, points)
		}
		for _, p := range []fall{{0, 1}, {5, 2}, {mostDist, mostRate}, {-1, 1}, {1, 0}} {
			if n := hull.Best(c, p.d, p.r); n != -1 {
				t.Errorf("%v: Best(%d, %d) = %d", c, p.d, p.r, n)
			}
		}
	}
}

// P20.4
func TestInvalidPrices(t *testing.T) {
	for _, c := range validCurves() {
		for _, d := range []int{math.MinInt, -mostDist, -1, mostDist + 1, 1 << 62, math.MaxInt} {
			for _, r := range []int{1, 2, mostRate, 0, -1, mostRate + 1} {
				if n := hull.Best(c, d, r); n != -1 {
					t.Errorf("%v: Best(%d, %d) = %d", c, d, r, n)
				}
			}
		}
		for _, r := range []int{math.MinInt, -mostRate, -1, 0, mostRate + 1, 1 << 32, 1<<32 + 1, math.MaxInt} {
			for _, d := range []int{0, 1, mostDist} {
				if n := hull.Best(c, d, r); n != -1 {
					t.Errorf("%v: Best(%d, %d) = %d", c, d, r, n)
				}
			}
		}
	}
}

// Rule R6
func TestArgumentsStay(t *testing.T) {
	rates, dists := []int{0, 10, 20, 30, -7, -8}, []int{100, 60, 50, 10, -7, -8}
	c := curve(rates[:4], dists[:4])
	hull.Valid(c)
	points := hull.Points(c)
	hull.Best(c, 3, 1)
	if !slices.Equal(rates, []int{0, 10, 20, 30, -7, -8}) || !slices.Equal(dists, []int{100, 60, 50, 10, -7, -8}) {
		t.Errorf("the curve becomes %v, %v", rates, dists)
	}
	clear(rates)
	clear(dists)
	other := hull.Points(curve([]int{0, 1}, []int{1, 0}))
	if !slices.Equal(points, []int{0, 1, 3}) || !slices.Equal(other, []int{0, 1}) {
		t.Errorf("the hulls become %v and %v", points, other)
	}
	clear(points[:cap(points)])
	if !slices.Equal(other, []int{0, 1}) {
		t.Error("two hulls share memory")
	}
}

// The examples of the chapter.
func TestExamples(t *testing.T) {
	for _, c := range []struct {
		c      api.Curve
		points []int
	}{
		{curve([]int{0, 10, 20, 30}, []int{100, 60, 50, 10}), []int{0, 1, 3}},
		{curve([]int{0, 0, 4, 4}, []int{9, 5, 5, 1}), []int{0, 1, 3}},
		{curve([]int{0, 2, 4}, []int{8, 4, 0}), []int{0, 2}},
	} {
		if points := hull.Points(c.c); !hull.Valid(c.c) || !slices.Equal(points, c.points) {
			t.Errorf("%v: the hull is %v; expected %v", c.c, points, c.points)
		}
	}
	line := curve([]int{0, 2, 4}, []int{8, 4, 0})
	if a, b := hull.Best(line, 2, 1), hull.Best(line, 1, 1); a != 0 || b != 2 {
		t.Errorf("Best is %d and %d", a, b)
	}
	for _, c := range []struct{ d1, r1, d2, r2, want int }{{40, 10, 50, 20, 1}, {50, 20, 90, 30, -1}, {1, 0, 5, 1, 1}, {1, 0, 5, 0, 0}, {0, 0, 0, 7, 0}, {-1, 1, 5, 1, 0}} {
		if n := hull.Steeper(c.d1, c.r1, c.d2, c.r2); n != c.want {
			t.Errorf("Steeper(%d, %d, %d, %d) = %d; expected %d", c.d1, c.r1, c.d2, c.r2, n, c.want)
		}
	}
}
