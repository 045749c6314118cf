package alloc_test

import (
	"math"
	"math/big"
	"math/rand/v2"
	"slices"
	"testing"

	"wavelet/alloc"
	"wavelet/api"
	"wavelet/hull"
)

const (
	mostDist   = 1 << 46
	mostRate   = 65535
	mostPoints = 179
	mostCurves = 65536
)

func curve(rates, dists []int) api.Curve { return api.Curve{Rates: rates, Dists: dists} }

// level returns a curve of so many points without rate or distortion.
func level(n int) api.Curve { return curve(make([]int, n), make([]int, n)) }

// The curves of the chapter's examples.
func curveA() api.Curve { return curve([]int{0, 10, 20, 30}, []int{100, 60, 50, 10}) }

func curveB() api.Curve { return curve([]int{0, 5}, []int{30, 15}) }

// drawn returns a valid curve of up to so many points with rates and distortions up to the given ones, some of which are equal to neighboring ones.
func drawn(source *rand.Rand, n, rate, dist int) api.Curve {
	c := level(1 + source.IntN(n))
	for i := range c.Rates {
		c.Rates[i], c.Dists[i] = source.IntN(rate+1), source.IntN(dist+1)
		if i > 0 && source.IntN(4) == 0 {
			c.Rates[i], c.Dists[i] = c.Rates[i-1], c.Dists[i-1]
		}
	}
	c.Rates[0] = 0
	slices.Sort(c.Rates)
	if source.IntN(3) > 0 {
		slices.SortFunc(c.Dists, func(a, b int) int { return b - a })
	}
	return c
}

// several returns up to so many drawn curves.
func several(source *rand.Rand, count, points, rate, dist int) []api.Curve {
	var l []api.Curve
	for range source.IntN(count + 1) {
		l = append(l, drawn(source, points, rate, dist))
	}
	return l
}

// selections are curves of many kinds.
func selections(source *rand.Rand) [][]api.Curve {
	l := [][]api.Curve{
		nil, {level(1)}, {level(mostPoints)}, {curveA(), curveB()}, {curveB(), curveA()}, {curveA(), curveA(), curveA()},
		{curve([]int{0, mostRate}, []int{mostDist, 0}), curve([]int{0, mostRate}, []int{mostDist, 1}), curve([]int{0, mostRate - 1}, []int{mostDist, 0})},
		{curve([]int{0, 0}, []int{mostDist, 0}), curve([]int{0, 0, 0}, []int{1, 0, 5}), curve([]int{0, mostRate}, []int{1, 0})},
	}
	for range 600 {
		l = append(l, several(source, 6, 6, 9, 9), several(source, 4, 12, 40, 300))
	}
	for range 60 {
		l = append(l, several(source, 12, 30, mostRate, mostDist), several(source, 5, mostPoints, 1000, 1<<30), several(source, 30, 5, 3, 3))
	}
	return l
}

// move is a step of the definition: to a point, with a fall of distortion and an increase of rate.
type move struct{ curve, position, to, d, r int }

func (a move) slope() *big.Rat { return big.NewRat(int64(a.d), int64(a.r)) }

// precedes reports whether a step precedes another one by the order of the chapter.
func (a move) precedes(b move) bool {
	switch {
	case (a.r == 0) != (b.r == 0):
		return a.r == 0
	case a.r > 0 && a.slope().Cmp(b.slope()) != 0:
		return a.slope().Cmp(b.slope()) > 0
	case a.curve != b.curve:
		return a.curve < b.curve
	}
	return a.position < b.position
}

// moves returns the steps of all curves; each one precedes those behind it.
func moves(curves []api.Curve) []move {
	var all []move
	for i := len(curves) - 1; i >= 0; i-- {
		c, points := curves[i], hull.Points(curves[i])
		for k := len(points) - 1; k > 0; k-- {
			from, to := points[k-1], points[k]
			a := move{i, k, to, c.Dists[from] - c.Dists[to], c.Rates[to] - c.Rates[from]}
			at := 0
			for at < len(all) && !a.precedes(all[at]) {
				at++
			}
			all = slices.Insert(all, at, a)
		}
	}
	return all
}

// lasts returns the last point of every curve.
func lasts(curves []api.Curve) []int {
	var l []int
	for _, c := range curves {
		l = append(l, len(c.Dists)-1)
	}
	return l
}

// model returns the choice of the definition.
func model(curves []api.Curve, sequence []move, budget int) []int {
	if budget == -1 {
		return lasts(curves)
	}
	choice, rate := make([]int, len(curves)), 0
	for _, a := range sequence {
		if rate+a.r > budget {
			return choice
		}
		choice[a.curve], rate = a.to, rate+a.r
	}
	return choice
}

// budgets returns -1, 0, the greatest integer, and the rates after some of the steps with their neighbors, in order.
func budgets(source *rand.Rand, sequence []move) []int {
	l := []int{-1, 0, math.MaxInt}
	rate := 0
	for _, a := range sequence {
		rate += a.r
		if len(sequence) < 30 || source.IntN(len(sequence)) < 30 {
			l = append(l, max(0, rate-1), rate, rate+1)
		}
	}
	slices.Sort(l)
	return slices.Compact(l)
}

// P21.2, P21.5
func TestChoose(t *testing.T) {
	source := rand.New(rand.NewPCG(21, 1))
	for _, curves := range selections(source) {
		sequence := moves(curves)
		before := make([]int, len(curves))
		list := budgets(source, sequence)
		for _, budget := range append(list[1:], -1) {
			choice, e := alloc.Choose(curves, budget)
			if want := model(curves, sequence, budget); e != api.OK || !slices.Equal(choice, want) {
				t.Fatalf("Choose(%v, %d) = %v, %d; expected %v", curves, budget, choice, e, want)
			}
			for i, point := range choice {
				if point < before[i] {
					t.Fatalf("Choose(%v, %d) = %v; for a lesser budget it is %v", curves, budget, choice, before)
				}
			}
			before = choice
		}
	}
}

// cost returns the rate and the distortion of a choice.
func cost(t *testing.T, curves []api.Curve, choice []int) (rate, dist int) {
	t.Helper()
	rate, dist, e := alloc.Cost(curves, choice)
	if e != api.OK {
		t.Fatalf("Cost(%v, %v): %d", curves, choice, e)
	}
	return rate, dist
}

// each calls f for every choice from curves.
func each(curves []api.Curve, f func(choice []int)) {
	choice := make([]int, len(curves))
	for {
		f(choice)
		i := 0
		for i < len(curves) && choice[i] == len(curves[i].Dists)-1 {
			choice[i] = 0
			i++
		}
		if i == len(curves) {
			return
		}
		choice[i]++
	}
}

// P21.1, P21.4: no choice is better, for few choices.
func TestNoChoiceIsBetter(t *testing.T) {
	source := rand.New(rand.NewPCG(21, 2))
	for range 400 {
		curves := several(source, 4, 5, 1+source.IntN(9), 1+source.IntN(20))
		for budget := range 40 {
			choice, _ := alloc.Choose(curves, budget)
			most, least := cost(t, curves, choice)
			if most > budget {
				t.Fatalf("Choose(%v, %d) = %v with the rate %d", curves, budget, choice, most)
			}
			each(curves, func(other []int) {
				rate, dist := 0, 0
				for i, point := range other {
					rate, dist = rate+curves[i].Rates[point], dist+curves[i].Dists[point]
				}
				if rate <= most && dist < least {
					t.Fatalf("Choose(%v, %d) = %v, but %v is better", curves, budget, choice, other)
				}
			})
		}
	}
}

// table returns for each rate up to the given one the least distortion of a choice that has at most this rate.
func table(curves []api.Curve, most int) []int {
	least := make([]int, most+1)
	for _, c := range curves {
		next := slices.Repeat([]int{math.MaxInt}, most+1)
		for rate := range next {
			for i, r := range c.Rates {
				if r <= rate {
					next[rate] = min(next[rate], least[rate-r]+c.Dists[i])
				}
			}
		}
		least = next
	}
	return least
}

// P21.4: no choice is better, for many choices.
func TestNoChoiceIsBetterOfMany(t *testing.T) {
	source := rand.New(rand.NewPCG(21, 3))
	for range 60 {
		curves := several(source, 20, 15, 1+source.IntN(30), 1<<source.IntN(47))
		least := table(curves, 601)
		for budget := range least {
			choice, _ := alloc.Choose(curves, budget)
			if rate, dist := cost(t, curves, choice); rate > budget || dist != least[rate] {
				t.Fatalf("Choose(%v, %d) = %v with the rate %d and the distortion %d; the least one is %d", curves, budget, choice, rate, dist, least[rate])
			}
		}
	}
}

// expect checks the choices for budgets.
func expect(t *testing.T, curves []api.Curve, list []int, want ...[]int) {
	t.Helper()
	choices, e := alloc.Layers(curves, list)
	if e != api.OK || !slices.EqualFunc(choices, want, slices.Equal) {
		t.Errorf("Layers(%v, %v) = %v, %d; expected %v", curves, list, choices, e, want)
	}
	for i, budget := range list {
		if choice, e := alloc.Choose(curves, budget); e != api.OK || !slices.Equal(choice, want[i]) {
			t.Errorf("Choose(%v, %d) = %v, %d; expected %v", curves, budget, choice, e, want[i])
		}
	}
}

// P21.2: equally steep steps are taken in the order of their curves, and those of one curve are one step.
func TestEqualSteps(t *testing.T) {
	same := curve([]int{0, 4}, []int{8, 0})
	expect(t, []api.Curve{same, same, same}, []int{3, 4, 7, 8, 11, 12}, []int{0, 0, 0}, []int{1, 0, 0}, []int{1, 0, 0}, []int{1, 1, 0}, []int{1, 1, 0}, []int{1, 1, 1})
	short, long := curve([]int{0, 1}, []int{2, 0}), curve([]int{0, 30000}, []int{60000, 0})
	expect(t, []api.Curve{long, short}, []int{1, 29999, 30000, 30001}, []int{0, 0}, []int{0, 0}, []int{1, 0}, []int{1, 1})
	expect(t, []api.Curve{short, long}, []int{0, 1, 30000, 30001}, []int{0, 0}, []int{1, 0}, []int{1, 0}, []int{1, 1})
	line := curve([]int{0, 2, 4}, []int{8, 4, 0})
	expect(t, []api.Curve{line, same}, []int{3, 4, 7, 8}, []int{0, 0}, []int{2, 0}, []int{2, 0}, []int{2, 1})
	flat := curve([]int{0, 0, 0}, []int{9, 5, 2})
	expect(t, []api.Curve{flat, line}, []int{0, 4}, []int{2, 0}, []int{2, 2})
	bend := curve([]int{0, 2, 6}, []int{10, 5, 1}) // the slopes 2.5 and 1
	expect(t, []api.Curve{same, bend, bend, same}, []int{2, 4, 8, 12, 16, 20},
		[]int{0, 1, 0, 0}, []int{0, 1, 1, 0}, []int{1, 1, 1, 0}, []int{1, 1, 1, 1}, []int{1, 2, 1, 1}, []int{1, 2, 2, 1})
}

// P21.2: steps without an increase of rate are taken for every budget, also before others of less curves.
func TestStepsWithoutIncrease(t *testing.T) {
	rising, free := curve([]int{0, 1}, []int{mostDist, 0}), curve([]int{0, 0, 0, 7}, []int{5, 4, 4, 3})
	expect(t, []api.Curve{rising, free}, []int{0, 1, 7, 8, -1}, []int{0, 1}, []int{1, 1}, []int{1, 1}, []int{1, 3}, []int{1, 3})
	expect(t, []api.Curve{free, rising, free}, []int{0, 1, 8, 15}, []int{1, 0, 1}, []int{1, 1, 1}, []int{3, 1, 1}, []int{3, 1, 3})
	none := curve([]int{0, 0, 5}, []int{4, 4, 4})
	expect(t, []api.Curve{none}, []int{0, 5, math.MaxInt, -1}, []int{0}, []int{0}, []int{0}, []int{2})
}

// P21.2: the budget -1 takes the last points, also if they are not the best ones.
func TestLastPoints(t *testing.T) {
	worse := curve([]int{0, 3, 9}, []int{7, 1, 8})
	expect(t, []api.Curve{worse, level(1), level(mostPoints)}, []int{9, math.MaxInt, -1}, []int{1, 0, 0}, []int{1, 0, 0}, []int{2, 0, mostPoints - 1})
	source := rand.New(rand.NewPCG(21, 4))
	for range 300 {
		curves := several(source, 9, mostPoints, mostRate, mostDist)
		expect(t, curves, []int{-1}, lasts(curves))
	}
}

// layers returns a valid list of up to MaxLayers of the given budgets, which are in order and begin with -1.
func layers(source *rand.Rand, from []int) []int {
	l := make([]int, source.IntN(api.MaxLayers+1))
	for i := range l {
		l[i] = from[1+source.IntN(len(from)-1)]
	}
	slices.Sort(l)
	if n := len(l); n > 0 && source.IntN(2) == 0 {
		l[n-1] = -1
	}
	return l
}

// P21.3, P21.5
func TestLayers(t *testing.T) {
	source := rand.New(rand.NewPCG(21, 5))
	for _, curves := range selections(source) {
		sequence := moves(curves)
		list := layers(source, budgets(source, sequence))
		choices, e := alloc.Layers(curves, list)
		if e != api.OK || len(choices) != len(list) {
			t.Fatalf("Layers(%v, %v) = %v, %d", curves, list, choices, e)
		}
		for n, choice := range choices {
			if want := model(curves, sequence, list[n]); !slices.Equal(choice, want) {
				t.Fatalf("Layers(%v, %v)[%d] = %v; expected %v", curves, list, n, choice, want)
			}
			for i, point := range choice {
				if n > 0 && point < choices[n-1][i] {
					t.Fatalf("Layers(%v, %v): %v precedes %v", curves, list, choices[n-1], choice)
				}
			}
		}
	}
}

// P21.3, rule R5
func TestNothing(t *testing.T) {
	for _, curves := range [][]api.Curve{nil, {}} {
		for _, empty := range [][]int{nil, {}} {
			if rate, dist, e := alloc.Cost(curves, empty); rate != 0 || dist != 0 || e != api.OK {
				t.Errorf("Cost of no curve = %d, %d, %d", rate, dist, e)
			}
			if choices, e := alloc.Layers(curves, empty); len(choices) != 0 || e != api.OK {
				t.Errorf("Layers of no curve and no budget = %v, %d", choices, e)
			}
		}
		expect(t, curves, []int{0, 1, math.MaxInt, -1}, nil, nil, nil, nil)
	}
	for _, empty := range [][]int{nil, {}} {
		if choices, e := alloc.Layers([]api.Curve{curveA()}, empty); len(choices) != 0 || e != api.OK {
			t.Errorf("Layers without budgets = %v, %d", choices, e)
		}
	}
}

// P21.1
func TestCost(t *testing.T) {
	source := rand.New(rand.NewPCG(21, 6))
	for _, curves := range selections(source) {
		var choice []int
		wantRate, wantDist := new(big.Int), new(big.Int)
		for _, c := range curves {
			point := source.IntN(len(c.Rates))
			choice = append(choice, point)
			wantRate.Add(wantRate, big.NewInt(int64(c.Rates[point])))
			wantDist.Add(wantDist, big.NewInt(int64(c.Dists[point])))
		}
		if rate, dist := cost(t, curves, choice); int64(rate) != wantRate.Int64() || int64(dist) != wantDist.Int64() {
			t.Errorf("Cost(%v, %v) = %d, %d; expected %d, %d", curves, choice, rate, dist, wantRate, wantDist)
		}
	}
}

// P21.1, P21.2, P21.3: the greatest number of curves, with the greatest sums.
func TestMostCurves(t *testing.T) {
	curves := slices.Repeat([]api.Curve{curve([]int{0, mostRate, mostRate}, []int{mostDist, 0, mostDist})}, mostCurves)
	ones, twos := slices.Repeat([]int{1}, mostCurves), slices.Repeat([]int{2}, mostCurves)
	if rate, dist := cost(t, curves, twos); rate != 65536*65535 || dist != 1<<62 {
		t.Errorf("the greatest rate is %d, the greatest distortion %d", rate, dist)
	}
	half := slices.Concat(ones[:40000], make([]int, mostCurves-40000))
	list := []int{0, 40000 * mostRate, mostCurves*mostRate - 1, mostCurves * mostRate, math.MaxInt, -1}
	choices, e := alloc.Layers(curves, list)
	want := [][]int{make([]int, mostCurves), half, append(slices.Clone(ones[1:]), 0), ones, ones, twos}
	if e != api.OK || !slices.EqualFunc(choices, want, slices.Equal) {
		t.Errorf("Layers of the most curves: %d", e)
	}
	if choice, e := alloc.Choose(curves, 40000*mostRate); e != api.OK || !slices.Equal(choice, half) {
		t.Errorf("Choose of the most curves: %d", e)
	}
}

// P21.2: a step of the last curve is taken in its place among those of many others.
func TestOrderOfManyCurves(t *testing.T) {
	curves := make([]api.Curve, mostCurves)
	for i := range curves {
		fall := 1 + i*7919%mostCurves // all falls from 1 on are different
		curves[i] = curve([]int{0, 1}, []int{fall, 0})
	}
	for _, budget := range []int{0, 1, 999, 32768, mostCurves - 1, mostCurves} {
		choice, e := alloc.Choose(curves, budget)
		for i, point := range choice {
			if want := curves[i].Dists[0] > mostCurves-budget; (point == 1) != want {
				t.Fatalf("Choose with the budget %d: the point of the curve %d is %d", budget, i, point)
			}
		}
		if e != api.OK || len(choice) != mostCurves {
			t.Fatalf("Choose with the budget %d: %d points, %d", budget, len(choice), e)
		}
	}
}

// P21.2: of many equally steep steps those of the first curves are taken.
func TestManyEqualSteps(t *testing.T) {
	const count, slopes = 3000, 7
	curves := make([]api.Curve, count)
	for i := range curves {
		curves[i] = curve([]int{0, 1 + i%2}, []int{(1 + i%slopes) * (1 + i%2), 0})
	}
	var want []int // the curves in the order of their steps
	for slope := slopes; slope > 0; slope-- {
		for i := range curves {
			if 1+i%slopes == slope {
				want = append(want, i)
			}
		}
	}
	choice, budget := make([]int, count), 0
	for n, i := range want {
		choice[i] = 1
		budget += curves[i].Rates[1]
		if n%50 > 0 {
			continue
		}
		if l, e := alloc.Choose(curves, budget); e != api.OK || !slices.Equal(l, choice) {
			t.Fatalf("Choose with the budget %d takes others than the first %d steps", budget, n+1)
		}
	}
}

// noCurves are curves that are not valid.
func noCurves() []api.Curve {
	l := []api.Curve{
		{}, curve([]int{}, []int{}), curve([]int{0}, nil), curve(nil, []int{0}), curve([]int{0, 1}, []int{5}), curve([]int{0}, []int{5, 4}),
		level(mostPoints + 1), curve([]int{1}, []int{5}), curve([]int{-1, 0}, []int{5, 4}), curve([]int{0, 5, 4}, []int{3, 2, 1}),
	}
	for _, rate := range []int{math.MinInt, -1, mostRate + 1, math.MaxInt} {
		l = append(l, curve([]int{0, rate}, []int{5, 4}))
	}
	for _, dist := range []int{math.MinInt, -1, mostDist + 1, math.MaxInt} {
		l = append(l, curve([]int{0}, []int{dist}), curve([]int{0, 1}, []int{5, dist}))
	}
	return l
}

// question is what the functions are asked: Choose for the first budget.
type question struct {
	curves          []api.Curve
	choice, budgets []int
}

// plain returns a question without faults.
func plain() question {
	return question{[]api.Curve{curveA(), curveB(), level(3)}, []int{3, 1, 2}, []int{0, 7, 7, 90, -1}}
}

// fault spoils a question in several ways that have the same error.
type fault struct {
	want api.Errno
	ways []func(q *question)
}

// limit is the fault of too many curves.
func limit() fault {
	var f fault
	for _, c := range []api.Curve{level(1), {}} {
		f.want, f.ways = api.ErrLimit, append(f.ways, func(q *question) {
			q.curves = append(q.curves, slices.Repeat([]api.Curve{c}, mostCurves-len(q.curves)+1)...)
		})
	}
	return f
}

// badCurve is the fault of a curve that is not valid.
func badCurve() fault {
	var f fault
	for n, c := range noCurves() {
		f.want, f.ways = api.ErrArg, append(f.ways, func(q *question) { q.curves[n%3] = c })
	}
	return f
}

// check checks the errors of a question with any subset of the faults, which are named in the order of their errors.
func check(t *testing.T, faults []fault, ask func(q question) api.Errno) {
	t.Helper()
	if e := ask(plain()); e != api.OK {
		t.Fatalf("without faults the error is %d", e)
	}
	for set := 1; set < 1<<len(faults); set++ {
		for turn := range 40 {
			q, want := plain(), api.OK
			for i := len(faults) - 1; i >= 0; i-- {
				if set>>i&1 == 1 {
					faults[i].ways[turn%len(faults[i].ways)](&q)
					want = faults[i].want
				}
			}
			if e := ask(q); e != want {
				t.Fatalf("%d curves, the first ones %v, the choice %v, the budgets %v: the error is %d; expected %d", len(q.curves), q.curves[:3], q.choice, q.budgets, e, want)
			}
		}
	}
}

// P21.1: the errors in their order.
func TestFaultsOfCost(t *testing.T) {
	lengths, ranges := fault{want: api.ErrLength}, fault{want: api.ErrRange}
	for _, n := range []int{0, 1, 2, 4, 5, mostCurves, mostCurves + 1} {
		lengths.ways = append(lengths.ways, func(q *question) { q.choice = append(slices.Clone(q.choice), make([]int, mostCurves)...)[:n] })
	}
	lengths.ways = append(lengths.ways, func(q *question) { q.choice = nil })
	for i, points := range []int{4, 2, 3} {
		for _, point := range []int{math.MinInt, -points, -1, points, points + 1, 1 << 32, math.MaxInt} {
			ranges.ways = append(ranges.ways, func(q *question) { q.choice[i] = point })
		}
	}
	check(t, []fault{limit(), badCurve(), lengths, ranges}, func(q question) api.Errno {
		rate, dist, e := alloc.Cost(q.curves, q.choice)
		if e != api.OK && (rate != 0 || dist != 0) {
			t.Errorf("Cost(%v, %v) = %d, %d, %d", q.curves, q.choice, rate, dist, e)
		}
		return e
	})
}

// P21.2: the errors in their order.
func TestFaultsOfChoose(t *testing.T) {
	ranges := fault{want: api.ErrRange}
	for _, budget := range []int{math.MinInt, math.MinInt + 1, -1 << 32, -3, -2} {
		ranges.ways = append(ranges.ways, func(q *question) { q.budgets[0] = budget })
	}
	check(t, []fault{limit(), badCurve(), ranges}, func(q question) api.Errno {
		choice, e := alloc.Choose(q.curves, q.budgets[0])
		if e != api.OK && len(choice) != 0 {
			t.Errorf("Choose(%v, %d) = %v, %d", q.curves, q.budgets[0], choice, e)
		}
		return e
	})
}

// noBudgets are lists of budgets that are not valid.
func noBudgets() [][]int {
	l := [][]int{
		{-1, -1}, {-1, 0}, {0, -1, 0}, {0, -1, -1}, {-1, 5, -1}, {1, 0}, {0, 5, 4, -1}, {0, 5, 4, 6}, {5, 4, 5}, {0, math.MaxInt, math.MaxInt - 1}, {3, 2, -1}, {0, 0, 0, -1, 5},
		append(make([]int, 15), -2), append(slices.Repeat([]int{1}, 15), 0), append([]int{1}, make([]int, 15)...), slices.Repeat([]int{-1}, 16),
	}
	for _, budget := range []int{math.MinInt, math.MinInt + 1, -1 << 32, -3, -2} {
		l = append(l, []int{budget}, []int{budget, 0}, []int{budget, -1}, []int{budget, budget}, []int{0, budget, 5}, []int{0, 5, budget}, []int{0, -1, budget})
	}
	return l
}

// P21.3: the errors in their order.
func TestFaultsOfLayers(t *testing.T) {
	limits, ranges := limit(), fault{want: api.ErrRange}
	for _, n := range []int{17, 18, 1000} {
		for _, budget := range []int{0, -1, -2, 9} {
			limits.ways = append(limits.ways, func(q *question) { q.budgets = slices.Repeat([]int{budget}, n) })
		}
	}
	for _, l := range noBudgets() {
		ranges.ways = append(ranges.ways, func(q *question) { q.budgets = l })
	}
	check(t, []fault{limits, badCurve(), ranges}, func(q question) api.Errno {
		choices, e := alloc.Layers(q.curves, q.budgets)
		if e != api.OK && len(choices) != 0 {
			t.Errorf("Layers(%v, %v) = %v, %d", q.curves, q.budgets, choices, e)
		}
		return e
	})
}

// P21.3: lists of budgets are valid or not, whatever the curves are.
func TestBudgets(t *testing.T) {
	for _, curves := range [][]api.Curve{nil, {curveA()}, {curveA(), curveB()}} {
		for _, l := range noBudgets() {
			if choices, e := alloc.Layers(curves, l); len(choices) != 0 || e != api.ErrRange {
				t.Errorf("Layers(%v, %v) = %v, %d", curves, l, choices, e)
			}
		}
		for _, l := range [][]int{{0}, {-1}, {0, 0, -1}, {4, 4, 4}, make([]int, 16), append(make([]int, 15), -1), {math.MaxInt, math.MaxInt, -1}, {0, 1, math.MaxInt}} {
			if choices, e := alloc.Layers(curves, l); len(choices) != len(l) || e != api.OK {
				t.Errorf("Layers(%v, %v) = %v, %d", curves, l, choices, e)
			}
		}
	}
}

// P21.1, P21.2, P21.3: the curve that is not valid may stand anywhere.
func TestEachCurveCounts(t *testing.T) {
	for n := 1; n < 9; n++ {
		for i := range n {
			for _, c := range noCurves() {
				curves := slices.Repeat([]api.Curve{curveA()}, n)
				curves[i] = c
				_, _, e := alloc.Cost(curves, make([]int, n))
				_, f := alloc.Choose(curves, 0)
				_, g := alloc.Layers(curves, nil)
				if e != api.ErrArg || f != api.ErrArg || g != api.ErrArg {
					t.Errorf("the errors for %v as the curve %d of %d are %d, %d and %d", c, i, n, e, f, g)
				}
			}
		}
	}
}

// Rule R6
func TestArgumentsStay(t *testing.T) {
	rates, dists := []int{0, 10, 20, 30, -7, -8}, []int{100, 60, 50, 10, -7, -8}
	curves := []api.Curve{curve(rates[:4], dists[:4]), curveB(), {}}
	choice, list := []int{3, 1, 77, 78}, []int{5, 40, -1, 77, 78}
	alloc.Cost(curves[:2], choice[:2])
	alloc.Choose(curves[:2], 15)
	choices, e := alloc.Layers(curves[:2], list[:3])
	if !slices.Equal(rates, []int{0, 10, 20, 30, -7, -8}) || !slices.Equal(dists, []int{100, 60, 50, 10, -7, -8}) || len(curves[0].Rates) != 4 || curves[2].Rates != nil || curves[2].Dists != nil {
		t.Errorf("the curves become %v; behind them are %v and %v", curves, rates, dists)
	}
	if !slices.Equal(choice, []int{3, 1, 77, 78}) || !slices.Equal(list, []int{5, 40, -1, 77, 78}) {
		t.Errorf("the choice becomes %v, the budgets become %v", choice, list)
	}
	clear(rates)
	clear(dists)
	clear(list)
	want := [][]int{{0, 0}, {3, 1}, {3, 1}}
	if e != api.OK || !slices.EqualFunc(choices, want, slices.Equal) {
		t.Errorf("the choices become %v, %d", choices, e)
	}
}

// Rule R6
func TestChoicesShareNoMemory(t *testing.T) {
	for _, curves := range [][]api.Curve{{curveA()}, {curveA(), curveB()}, {level(1), level(2), level(3), level(4), level(5)}} {
		list := []int{0, 0, 15, 15, 40, -1}
		want, _ := alloc.Layers(curves, list)
		choices, e := alloc.Layers(curves, list)
		for i, choice := range choices {
			choice = choice[:cap(choice)]
			for k := range choice {
				choice[k] = -9
			}
			if e != api.OK || !slices.EqualFunc(choices[i+1:], want[i+1:], slices.Equal) {
				t.Errorf("the choice %d of %v shares memory with a later one", i, curves)
			}
		}
		again, _ := alloc.Layers(curves, list)
		if !slices.EqualFunc(again, want, slices.Equal) {
			t.Errorf("the choices of %v share memory with other ones", curves)
		}
	}
}

// bent returns a curve with several slopes, of which none is likely to be that of another curve.
func bent(source *rand.Rand) api.Curve {
	c := curve([]int{0}, []int{1<<45 + source.IntN(1<<40)})
	for i, fall := range []int{1 << 40, 1 << 35, 1 << 30, 1 << 26} {
		c.Rates = append(c.Rates, c.Rates[i]+1+source.IntN(30))
		c.Dists = append(c.Dists, c.Dists[i]-fall-source.IntN(fall))
	}
	return c
}

// P21.2: if no steps are equally steep, the order of the curves does not matter.
func TestOrderOfCurves(t *testing.T) {
	source := rand.New(rand.NewPCG(21, 7))
	for n := range 300 {
		curves := make([]api.Curve, 1+n%8)
		for i := range curves {
			curves[i] = bent(source)
		}
		order := source.Perm(len(curves))
		other := make([]api.Curve, len(curves))
		for i, k := range order {
			other[i] = curves[k]
		}
		for _, budget := range []int{0, 3, 20, 60, 100, 250, -1} {
			a, _ := alloc.Choose(curves, budget)
			b, _ := alloc.Choose(other, budget)
			for i, k := range order {
				if a[k] != b[i] {
					t.Fatalf("Choose(%v, %d) = %v; in the order %v it is %v", curves, budget, a, order, b)
				}
			}
		}
	}
}

// The examples of the chapter.
func TestExamples(t *testing.T) {
	curves := []api.Curve{curveA(), curveB()}
	expect(t, curves, []int{9, 14, 15, 34, 35, -1}, []int{0, 0}, []int{1, 0}, []int{1, 1}, []int{1, 1}, []int{3, 1}, []int{3, 1})
	if rate, dist := cost(t, curves, []int{1, 1}); rate != 15 || dist != 75 {
		t.Errorf("the cost of 1, 1 is %d, %d", rate, dist)
	}
	if choice, e := alloc.Choose(curves, -2); len(choice) != 0 || e != api.ErrRange {
		t.Errorf("Choose with the budget -2 = %v, %d", choice, e)
	}
}
