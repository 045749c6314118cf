package distort_test

import (
	"bytes"
	"math"
	"math/big"
	"math/rand/v2"
	"slices"
	"testing"

	"wavelet/api"
	"wavelet/blockdec"
	"wavelet/blockenc"
	"wavelet/distort"
	"wavelet/hull"
	"wavelet/quant"
)

// steps and deads are valid, the others are not.
var (
	steps   = []int{1, 2, 3, 8, 255, api.MaxStep - 1, api.MaxStep}
	deads   = []int{api.MinDead, 15, 16, 17, api.MaxDead}
	noSteps = []int{math.MinInt, -8, -1, 0, api.MaxStep + 1, 1 << 32, math.MaxInt}
	noDeads = []int{math.MinInt, -16, 0, api.MinDead - 1, api.MaxDead + 1, 1<<32 + 16, math.MaxInt}
)

// noCounts are numbers of missing bit planes that are none.
var noCounts = []int{math.MinInt, -2, -1, api.MaxPlanes + 1, 64, 1 << 32, math.MaxInt}

// noWeights are no weights.
var noWeights = []int{math.MinInt, -16, -1, api.MaxWeight + 1, 64, 1 << 32, math.MaxInt}

// noShifts are no shifts of a region of interest.
var noShifts = []int{math.MinInt, -2, -1, api.MaxShift + 1, 63, 64, 1 << 32, math.MaxInt}

// integers returns small numbers, powers of two and their neighbors, and the ends of the integers, each with both signs.
func integers() []int {
	l := []int{math.MinInt, math.MinInt + 1, math.MinInt + 2, math.MaxInt, math.MaxInt - 1}
	for v := range 5 {
		l = append(l, v, -v)
	}
	for n := 3; n < 63; n++ {
		for d := -1; d <= 1; d++ {
			l = append(l, 1<<n+d, -1<<n+d)
		}
	}
	return l
}

// P19.1
func TestWeight(t *testing.T) {
	weights := [][]int{
		{1},
		{1, 1, 1, 1},
		{4, 4, 4, 4, 1, 1, 1},
		{16, 16, 16, 16, 4, 4, 4, 1, 1, 1},
		{16, 16, 16, 16, 16, 16, 16, 4, 4, 4, 1, 1, 1},
		{16, 16, 16, 16, 16, 16, 16, 16, 16, 16, 4, 4, 4, 1, 1, 1},
	}
	for levels := -3; levels < 9; levels++ {
		for index := -4; index < 40; index++ {
			want := 0
			if levels >= 0 && levels < len(weights) && index >= 0 && index < len(weights[levels]) {
				want = weights[levels][index]
			}
			if n := distort.Weight(levels, index); n != want {
				t.Errorf("Weight(%d, %d) = %d; expected %d", levels, index, n, want)
			}
		}
	}
	for _, n := range []int{math.MinInt, math.MinInt + 1, -1 << 32, 1 << 32, 1<<32 + 1, math.MaxInt - 1, math.MaxInt} {
		for _, other := range []int{math.MinInt, -1, 0, 1, 3, 5, math.MaxInt} {
			if a, b := distort.Weight(n, other), distort.Weight(other, n); a != 0 || b != 0 {
				t.Errorf("the weights for %d and %d are %d and %d", n, other, a, b)
			}
		}
	}
}

// expected returns the error of a coefficient by the definition of the chapter.
func expected(c, v, missing, step, dead int) int {
	d := new(big.Int).Sub(big.NewInt(int64(c)), big.NewInt(int64(quant.Reconstruct(v, missing, step, dead))))
	if d.CmpAbs(big.NewInt(32767)) >= 0 {
		return 32767
	}
	return int(d.Abs(d).Int64())
}

func expectError(t *testing.T, c, v, missing, step, dead int) {
	t.Helper()
	if e, want := distort.Error(c, v, missing, step, dead), expected(c, v, missing, step, dead); e != want {
		t.Errorf("Error(%d, %d, %d, %d, %d) = %d; expected %d", c, v, missing, step, dead, e, want)
	}
}

// P19.2, P19.5
func TestErrorOfAnyIntegers(t *testing.T) {
	l := integers()
	for _, v := range l {
		for _, step := range []int{1, 8, api.MaxStep} {
			for _, missing := range []int{0, 3, api.MaxPlanes} {
				for _, c := range l {
					expectError(t, c, v, missing, step, 16)
				}
			}
		}
	}
}

// P19.2, P19.5: errors near 0 and near their limit.
func TestErrorNearReconstructions(t *testing.T) {
	for _, step := range steps {
		for _, dead := range deads {
			for _, v := range []int{0, 1, -1, 2, -7, 40, -1000, 1 << 30, -1 << 31, math.MaxInt, math.MinInt} {
				for _, missing := range []int{0, 1, 2, 9, 31, api.MaxPlanes} {
					c := quant.Reconstruct(v, missing, step, dead)
					for _, d := range []int{0, 1, 2, 5, 181, 16384, 32765, 32766, 32767, 32768, 32769, 65535, 65536, 1 << 31, 1 << 32, 1 << 40} {
						expectError(t, c+d, v, missing, step, dead)
						expectError(t, c-d, v, missing, step, dead)
					}
				}
			}
		}
	}
}

// P19.2: for arguments that are not valid 0 is reconstructed.
func TestErrorOfInvalidArguments(t *testing.T) {
	expect := func(missing, step, dead int) {
		t.Helper()
		for _, v := range []int{0, 1, -5, 1 << 20, math.MaxInt, math.MinInt} {
			for _, c := range []int{0, 1, -1, 300, -300, 32766, -32767} {
				if e := distort.Error(c, v, missing, step, dead); e != max(c, -c) {
					t.Errorf("Error(%d, %d, %d, %d, %d) = %d", c, v, missing, step, dead, e)
				}
			}
			for _, c := range []int{32768, -32768, math.MaxInt, math.MinInt} {
				if e := distort.Error(c, v, missing, step, dead); e != 32767 {
					t.Errorf("Error(%d, %d, %d, %d, %d) = %d", c, v, missing, step, dead, e)
				}
			}
		}
	}
	for _, missing := range noCounts {
		expect(missing, 8, 16)
	}
	for _, step := range noSteps {
		expect(0, step, 16)
	}
	for _, dead := range noDeads {
		expect(2, 8, dead)
	}
}

// P19.5
func TestErrorIsAtMostHalfTheStep(t *testing.T) {
	for _, step := range steps {
		for _, dead := range deads {
			last := api.MaxCoefficient/step - 3
			for _, v := range []int{1, 2, 3, 17, 1000, min(last, 1<<20), last, -1, -2, -500, -last} {
				low, high := quant.Interval(v, 0, step, dead)
				if low < -api.MaxCoefficient || high > api.MaxCoefficient {
					t.Fatalf("step %d, parameter %d: the interval of %d is from %d to %d", step, dead, v, low, high)
				}
				for c := low; c <= high; c += 1 + step/50 {
					if e := distort.Error(c, v, 0, step, dead); e > step/2 {
						t.Errorf("Error(%d, %d, 0, %d, %d) = %d", c, v, step, dead, e)
					}
				}
				if e := distort.Error(high, v, 0, step, dead); e > step/2 {
					t.Errorf("Error(%d, %d, 0, %d, %d) = %d", high, v, step, dead, e)
				}
			}
		}
	}
}

// sample is what Total measures.
type sample struct{ coeffs, values, missing []int }

// drawn returns so many coefficients, most of which are near what is reconstructed.
func drawn(source *rand.Rand, n, step, dead int) sample {
	s := sample{make([]int, n), make([]int, n), make([]int, n)}
	for i := range n {
		v, missing := source.IntN(2001)-1000, source.IntN(5)
		c := quant.Reconstruct(v, missing, step, dead) + source.IntN(4*step+1) - 2*step
		if source.IntN(10) == 0 {
			c, v, missing = int(source.Uint64()), int(source.Uint64())>>source.IntN(64), source.IntN(61)
		}
		s.coeffs[i], s.values[i], s.missing[i] = c, v, missing
	}
	return s
}

// distortion returns the distortion of the definitions.
func (s sample) distortion(step, dead, weight int) int {
	sum := new(big.Int)
	for i, c := range s.coeffs {
		e := big.NewInt(int64(expected(c, s.values[i], s.missing[i], step, dead)))
		sum.Add(sum, e.Mul(e, e))
	}
	return int(sum.Mul(sum, big.NewInt(int64(weight))).Int64())
}

// total checks the result of Total, and returns it.
func (s sample) total(t *testing.T, step, dead, weight int) int {
	t.Helper()
	n, e := distort.Total(s.coeffs, s.values, s.missing, step, dead, weight)
	if want := s.distortion(step, dead, weight); e != api.OK || n != want {
		t.Fatalf("Total of %d coefficients, %d, %d, %d = %d, %d; expected %d", len(s.coeffs), step, dead, weight, n, e, want)
	}
	return n
}

// part returns the elements from a position up to another one.
func (s sample) part(from, to int) sample {
	return sample{s.coeffs[from:to], s.values[from:to], s.missing[from:to]}
}

// shuffled returns the elements in another order.
func (s sample) shuffled(source *rand.Rand) sample {
	var l sample
	for _, i := range source.Perm(len(s.coeffs)) {
		l.coeffs, l.values, l.missing = append(l.coeffs, s.coeffs[i]), append(l.values, s.values[i]), append(l.missing, s.missing[i])
	}
	return l
}

// P19.3, P19.5
func TestTotal(t *testing.T) {
	source := rand.New(rand.NewPCG(19, 1))
	for _, n := range []int{0, 1, 2, 3, 16, 63, 1000, 4095, 4096} {
		for _, step := range steps {
			dead := deads[source.IntN(len(deads))]
			s := drawn(source, n, step, dead)
			once := s.total(t, step, dead, 1)
			if s.total(t, step, dead, 0) != 0 {
				t.Errorf("Total of %d coefficients for the weight 0 is not 0", n)
			}
			for weight := 2; weight <= api.MaxWeight; weight++ {
				if s.total(t, step, dead, weight) != weight*once {
					t.Errorf("Total of %d coefficients is not proportional to the weight", n)
				}
			}
			cut := source.IntN(n + 1)
			if s.part(0, cut).total(t, step, dead, 1)+s.part(cut, n).total(t, step, dead, 1) != once {
				t.Errorf("Total of %d coefficients is not the sum of those of its parts", n)
			}
			if s.shuffled(source).total(t, step, dead, 1) != once {
				t.Errorf("Total of %d coefficients depends on their order", n)
			}
		}
	}
}

// P19.3: the greatest distortion, for each number of missing planes.
func TestGreatestTotal(t *testing.T) {
	for missing := range api.MaxPlanes + 1 {
		for _, c := range []int{math.MinInt, math.MaxInt, -1 << 40, 1 << 40, 32767} {
			n, e := distort.Total(slices.Repeat([]int{c}, 4096), make([]int, 4096), slices.Repeat([]int{missing}, 4096), api.MaxStep, api.MinDead, 16)
			if want := 4096 * 32767 * 32767 * 16; n != want || e != api.OK || n > 1<<46 {
				t.Errorf("Total of coefficients %d, of which %d planes are missing = %d, %d; expected %d", c, missing, n, e, want)
			}
		}
	}
}

func rejectTotal(t *testing.T, s sample, step, dead, weight int, want api.Errno) {
	t.Helper()
	if n, e := distort.Total(s.coeffs, s.values, s.missing, step, dead, weight); n != 0 || e != want {
		t.Errorf("Total of %d, %d and %d elements, %d, %d, %d = %d, %d; expected %d", len(s.coeffs), len(s.values), len(s.missing), step, dead, weight, n, e, want)
	}
}

// invalid calls f for steps, parameters and weights of which at least one is not valid.
func invalid(f func(step, dead, weight int)) {
	for _, step := range noSteps {
		f(step, 16, 1)
		f(step, 0, 17)
	}
	for _, dead := range noDeads {
		f(8, dead, 0)
	}
	for _, weight := range noWeights {
		f(1, 16, weight)
	}
}

// P19.3: lengths
func TestTotalOfDifferentLengths(t *testing.T) {
	lengths := []int{0, 1, 2, 4096, 4097, 5000}
	for _, a := range lengths {
		for _, b := range lengths {
			for _, c := range lengths {
				s := sample{make([]int, a), make([]int, b), make([]int, c)}
				for _, missing := range []int{0, -1, 61} {
					if c > 0 {
						s.missing[c-1] = missing
					}
					switch {
					case a != b || b != c:
						rejectTotal(t, s, 8, 16, 1, api.ErrLength)
						invalid(func(step, dead, weight int) { rejectTotal(t, s, step, dead, weight, api.ErrLength) })
					case a > 4096:
						rejectTotal(t, s, 8, 16, 1, api.ErrLimit)
						invalid(func(step, dead, weight int) { rejectTotal(t, s, step, dead, weight, api.ErrLimit) })
					}
				}
			}
		}
	}
}

// P19.3: ranges
func TestTotalOfInvalidNumbers(t *testing.T) {
	source := rand.New(rand.NewPCG(19, 2))
	for _, n := range []int{0, 1, 2, 7, 4096} {
		s := drawn(source, n, 8, 16)
		invalid(func(step, dead, weight int) { rejectTotal(t, s, step, dead, weight, api.ErrRange) })
		if n == 0 {
			continue
		}
		for _, i := range []int{0, n / 2, n - 1} {
			for _, missing := range noCounts {
				old := s.missing[i]
				s.missing[i] = missing
				for _, weight := range []int{0, 1, 16} {
					rejectTotal(t, s, 8, 16, weight, api.ErrRange)
				}
				s.missing[i] = old
			}
		}
		for _, missing := range []int{0, api.MaxPlanes} {
			s.missing[n-1] = missing
			s.total(t, 8, 16, 3)
		}
	}
}

// P19.3, rule R5
func TestTotalOfNothing(t *testing.T) {
	for _, s := range []sample{{}, {[]int{}, nil, []int{}}, {nil, []int{}, nil}} {
		if n := s.total(t, 8, 16, 16); n != 0 {
			t.Errorf("Total of nothing = %d", n)
		}
	}
}

// modes are all combinations of a Mode's fields.
func modes() []api.Mode {
	var l []api.Mode
	for n := range 32 {
		l = append(l, api.Mode{Bypass: n&1 != 0, Restart: n&2 != 0, Reset: n&4 != 0, Causal: n&8 != 0, Symbols: n&16 != 0})
	}
	return l
}

// block is what Curve measures.
type block struct {
	coeffs                    []int
	c                         api.Coded
	w, h                      int
	o                         api.Orient
	m                         api.Mode
	step, dead, weight, shift int
}

func (b block) curve() (api.Curve, api.Errno) {
	return distort.Curve(b.coeffs, b.c, b.w, b.h, b.o, b.m, b.step, b.dead, b.weight, b.shift)
}

// model returns the curve of the definitions, or the first error of Decode.
func (b block) model() (api.Curve, api.Errno) {
	curve := api.Curve{}
	for n := range len(b.c.Passes) + 1 {
		values, missing, e := blockdec.Decode(b.c, n, b.w, b.h, b.o, b.m)
		if e != api.OK {
			return api.Curve{}, e
		}
		for i := range values {
			values[i], missing[i] = quant.Unscale(values[i], missing[i], b.shift)
		}
		rate := 0
		if n > 0 {
			rate = b.c.Passes[n-1]
		}
		curve.Rates = append(curve.Rates, rate)
		curve.Dists = append(curve.Dists, sample{b.coeffs, values, missing}.distortion(b.step, b.dead, b.weight))
	}
	return curve, api.OK
}

// compare checks Curve against the definitions, and that the curve is valid. It returns the error.
func (b block) compare(t *testing.T) api.Errno {
	t.Helper()
	want, f := b.model()
	got, e := b.curve()
	if e != f || !slices.Equal(got.Rates, want.Rates) || !slices.Equal(got.Dists, want.Dists) {
		t.Fatalf("the curve of %v is %v, %d; expected %v, %d", b, got, e, want, f)
	}
	if e == api.OK && (!hull.Valid(got) || len(got.Rates) != len(b.c.Passes)+1) {
		t.Fatalf("the curve %v of %d passes is not valid, or does not have one point more", got, len(b.c.Passes))
	}
	return e
}

// quantized returns a coded block of coefficients most of which are 0, some of them shifted.
func quantized(t *testing.T, source *rand.Rand, w, h int, m api.Mode) block {
	t.Helper()
	b := block{w: w, h: h, o: api.Orient(source.IntN(4)), m: m, step: steps[source.IntN(len(steps))], dead: deads[source.IntN(len(deads))], weight: source.IntN(17)}
	if source.IntN(2) == 0 {
		b.shift = 1 + source.IntN(12)
	}
	values := make([]int, w*h)
	rare := 1 + source.IntN(6)
	for i := range values {
		c := int(source.Uint64N(1<<source.IntN(20))) * (1 - 2*source.IntN(2))
		if source.IntN(rare) != 0 {
			c = 0
		}
		values[i] = quant.Quantize(c, b.step, b.dead)
		if source.IntN(2) == 0 {
			values[i] <<= b.shift
		}
		b.coeffs = append(b.coeffs, c)
	}
	c, e := blockenc.Encode(values, w, h, b.o, m)
	if e != api.OK {
		t.Fatalf("Encode of %v = %d", values, e)
	}
	b.c = c
	return b
}

// sizes calls f for many small sizes, and for some of the largest ones.
func sizes(f func(w, h int)) {
	for w := 1; w <= 5; w++ {
		for h := 1; h <= 9; h++ {
			f(w, h)
		}
	}
	for _, s := range [][2]int{{64, 1}, {1, 64}, {63, 5}, {6, 62}} {
		f(s[0], s[1])
	}
}

// P19.4, P19.6
func TestCurve(t *testing.T) {
	source := rand.New(rand.NewPCG(19, 3))
	sizes(func(w, h int) {
		for _, m := range modes() {
			if e := quantized(t, source, w, h, m).compare(t); e != api.OK {
				t.Fatalf("the curve of a block of Encode with %v: %d", m, e)
			}
		}
	})
	for _, m := range []api.Mode{{}, {Bypass: true, Symbols: true}} {
		quantized(t, source, 64, 64, m).compare(t)
	}
}

// damaged returns a block with other bytes, or with lower entries before the last one: it stays valid.
func damaged(source *rand.Rand, b block) block {
	b.c.Passes, b.c.Data = slices.Clone(b.c.Passes), bytes.Clone(b.c.Data)
	for range source.IntN(3) {
		if len(b.c.Data) > 0 {
			b.c.Data[source.IntN(len(b.c.Data))] ^= byte(1 + source.IntN(255))
		}
	}
	if n := len(b.c.Passes) - 1; n > 0 && source.IntN(2) == 0 {
		i := source.IntN(n)
		lower := source.IntN(b.c.Passes[i] + 1)
		for j := range i + 1 {
			b.c.Passes[j] = min(b.c.Passes[j], lower)
		}
	}
	return b
}

// P19.4: the first error is that of a number of passes, even if all passes can be decoded.
func TestCurveOfDamagedBlocks(t *testing.T) {
	source := rand.New(rand.NewPCG(19, 4))
	corrupt, masked := 0, 0
	for i := range 2000 {
		b := damaged(source, quantized(t, source, 2+source.IntN(5), 2+source.IntN(6), modes()[i%32]))
		if b.compare(t) != api.ErrCorrupt {
			continue
		}
		corrupt++
		if _, _, e := blockdec.Decode(b.c, len(b.c.Passes), b.w, b.h, b.o, b.m); e == api.OK {
			masked++
		}
	}
	if corrupt < 100 || masked < 10 {
		t.Errorf("%d blocks are corrupt; of %d of them all passes can be decoded", corrupt, masked)
	}
}

// P19.4: blocks of any bytes, with fewer passes than planes have, and coefficients of any size.
func TestCurveOfAnyBlocks(t *testing.T) {
	source := rand.New(rand.NewPCG(19, 5))
	for i := range 800 {
		b := block{w: 1 + source.IntN(5), h: 1 + source.IntN(9), o: api.Orient(source.IntN(4)), m: modes()[i%16], step: steps[i%len(steps)], dead: 16, weight: source.IntN(17), shift: source.IntN(31)}
		b.c.Planes = source.IntN(12)
		if i%20 == 0 {
			b.c.Planes = source.IntN(61)
		}
		for range source.IntN(max(1, 3*b.c.Planes-1)) {
			b.c.Passes = append(b.c.Passes, source.IntN(60))
		}
		slices.Sort(b.c.Passes)
		if n := len(b.c.Passes); n > 0 {
			for range b.c.Passes[n-1] {
				b.c.Data = append(b.c.Data, byte(source.IntN(256)))
			}
		}
		for range b.w * b.h {
			b.coeffs = append(b.coeffs, int(source.Uint64())>>source.IntN(64))
		}
		if e := b.compare(t); e != api.OK {
			t.Fatalf("the curve of %v: %d", b.c, e)
		}
	}
}

// P19.4: all planes, passes, bytes and shifts.
func TestCurveAtTheLimits(t *testing.T) {
	source := rand.New(rand.NewPCG(19, 6))
	b := block{coeffs: []int{math.MinInt, math.MaxInt, 0, -1, 1 << 32, -32767}, c: api.Coded{Planes: 60}, w: 3, h: 2, o: api.HH, step: api.MaxStep, dead: api.MaxDead, weight: 16}
	for range 177 {
		b.c.Passes = append(b.c.Passes, source.IntN(65536))
	}
	b.c.Passes = append(b.c.Passes, 65535)
	slices.Sort(b.c.Passes)
	for range 65535 {
		b.c.Data = append(b.c.Data, byte(source.IntN(256)))
	}
	for shift := range api.MaxShift + 1 {
		b.shift = shift
		if e := b.compare(t); e != api.OK {
			t.Errorf("the curve for the shift %d: %d", shift, e)
		}
	}
}

// valid returns a block without faults, which has check symbols.
func valid(t *testing.T) block {
	t.Helper()
	c, e := blockenc.Encode([]int{5, -3, 0, 9, 0, 1}, 3, 2, api.HL, api.Mode{Symbols: true})
	if e != api.OK {
		t.Fatalf("Encode = %d", e)
	}
	return block{coeffs: []int{40, -27, 3, 77, -1, 8}, c: c, w: 3, h: 2, o: api.HL, m: api.Mode{Symbols: true}, step: 8, dead: 16, weight: 4}
}

// fault makes a block invalid in one of several ways. Its error comes before those of later faults.
type fault struct {
	want api.Errno
	ways []func(b *block)
}

// each returns a way for each number.
func each(numbers []int, set func(b *block, n int)) []func(b *block) {
	var l []func(b *block)
	for _, n := range numbers {
		l = append(l, func(b *block) { set(b, n) })
	}
	return l
}

// faults returns the faults of the arguments of Curve in the order of their errors.
func faults() []fault {
	sides := []int{math.MinInt, -1, 0, 65, 1 << 32, math.MaxInt}
	ranges := each(noSteps, func(b *block, n int) { b.step = n })
	ranges = append(ranges, each(noDeads, func(b *block, n int) { b.dead = n })...)
	ranges = append(ranges, each(noWeights, func(b *block, n int) { b.weight = n })...)
	ranges = append(ranges, each(noShifts, func(b *block, n int) { b.shift = n })...)
	return []fault{
		{api.ErrRange, each([]int{math.MinInt, -1, 61, math.MaxInt}, func(b *block, n int) { b.c.Planes = n })},
		{api.ErrLength, each([]int{-1, 1 << 32}, func(b *block, n int) { b.c.Passes = append(slices.Clone(b.c.Passes[1:]), n) })},
		{api.ErrLimit, []func(b *block){func(b *block) {
			b.c.Data = make([]byte, 65536)
			b.c.Passes = append(slices.Clone(b.c.Passes[1:]), 65536)
		}}},
		{api.ErrRange, append(each(sides, func(b *block, n int) { b.w = n }), each(sides, func(b *block, n int) { b.h = n })...)},
		{api.ErrKind, each([]int{math.MinInt, -1, 4, 1 << 32, math.MaxInt}, func(b *block, n int) { b.o = api.Orient(n) })},
		{api.ErrLength, each([]int{0, 1, 5, 7, 4096, 4097}, func(b *block, n int) { b.coeffs = make([]int, n) })},
		{api.ErrRange, ranges},
		{api.ErrCorrupt, []func(b *block){func(b *block) { b.c.Data = make([]byte, len(b.c.Data)) }}},
	}
}

func (b block) reject(t *testing.T, want api.Errno) {
	t.Helper()
	if c, e := b.curve(); e != want || len(c.Rates) != 0 || len(c.Dists) != 0 {
		t.Fatalf("the curve of %v is %v, %d; expected the error %d", b, c, e, want)
	}
}

// P19.4: every fault, alone and with each later one.
func TestFaultsOfCurve(t *testing.T) {
	if e := valid(t).compare(t); e != api.OK {
		t.Fatalf("the curve of a block without faults: %d", e)
	}
	l := faults()
	for i, first := range l {
		for _, spoil := range first.ways {
			b := valid(t)
			spoil(&b)
			b.reject(t, first.want)
			for _, later := range l[i+1:] {
				for _, other := range later.ways {
					b := valid(t)
					other(&b)
					spoil(&b)
					b.reject(t, first.want)
				}
			}
		}
	}
}

// P19.4: any subset of the faults has the error of the first one.
func TestSubsetsOfFaults(t *testing.T) {
	l := faults()
	for set := 1; set < 1<<len(l); set++ {
		b := valid(t)
		var want api.Errno
		for i := len(l) - 1; i >= 0; i-- {
			if set>>i%2 == 1 {
				l[i].ways[set%len(l[i].ways)](&b)
				want = l[i].want
			}
		}
		b.reject(t, want)
	}
}

// P19.4: a shift that is invalid has its error also if there are no passes.
func TestFaultsWithoutPasses(t *testing.T) {
	for _, shift := range noShifts {
		block{coeffs: []int{3}, w: 1, h: 1, step: 8, dead: 16, weight: 1, shift: shift}.reject(t, api.ErrRange)
		block{w: 1, h: 1, step: 8, dead: 16, weight: 1, shift: shift}.reject(t, api.ErrLength)
	}
	block{step: 8, dead: 16}.reject(t, api.ErrRange)
}

// P19.7
func TestEndsOfCurves(t *testing.T) {
	source := rand.New(rand.NewPCG(19, 7))
	sizes(func(w, h int) {
		for _, m := range modes() {
			b := block{w: w, h: h, o: api.Orient(source.IntN(4)), m: m, step: 1, dead: 16, weight: source.IntN(17)}
			squares := 0
			for range w * h {
				v := source.IntN(1<<source.IntN(16)) * (1 - 2*source.IntN(2))
				if v == -32767 || v == 32767 {
					v = 32766
				}
				b.coeffs = append(b.coeffs, v)
				squares += v * v
			}
			c, e := blockenc.Encode(b.coeffs, w, h, b.o, m)
			b.c = c
			curve, f := b.curve()
			if e != api.OK || f != api.OK || len(curve.Dists) != len(c.Passes)+1 {
				t.Fatalf("the curve of %v: %v, %d, %d", b.coeffs, curve, e, f)
			}
			if curve.Rates[0] != 0 || curve.Dists[0] != b.weight*squares || curve.Dists[len(c.Passes)] != 0 {
				t.Fatalf("the curve of %v for the weight %d: %v", b.coeffs, b.weight, curve)
			}
		}
	})
}

// P19.4: bit planes that the region of interest does not have are not missing.
func TestCurveOfAShiftedBlock(t *testing.T) {
	for shift := 1; shift <= api.MaxShift; shift++ {
		c, e := blockenc.Encode([]int{1 << shift, 1, -1 << shift, 0}, 2, 2, api.LL, api.Mode{})
		b := block{coeffs: []int{1, 1, -1, 0}, c: c, w: 2, h: 2, step: 1, dead: 16, weight: 1, shift: shift}
		curve, f := b.curve()
		if e != api.OK || f != api.OK || curve.Dists[0] != 3 || curve.Dists[1] != 1 || curve.Dists[len(c.Passes)] != 0 {
			t.Errorf("the curve for the shift %d: %v, %d, %d", shift, curve, e, f)
		}
	}
}

// Rule R6
func TestArgumentsStay(t *testing.T) {
	b := valid(t)
	entries, data, coeffs := append(b.c.Passes, 77, 78), append(b.c.Data, 77, 78), append(b.coeffs, 77, 78)
	wantEntries, wantData, wantCoeffs := slices.Clone(entries), bytes.Clone(data), slices.Clone(coeffs)
	b.c.Passes, b.c.Data, b.coeffs = entries[:len(entries)-2], data[:len(data)-2], coeffs[:len(coeffs)-2]
	curve, e := b.curve()
	if e != api.OK || !slices.Equal(entries, wantEntries) || !bytes.Equal(data, wantData) || !slices.Equal(coeffs, wantCoeffs) {
		t.Errorf("the arguments of Curve become %v, %v, %v, %d", entries, data, coeffs, e)
	}
	rates, dists := slices.Clone(curve.Rates), slices.Clone(curve.Dists)
	clear(entries)
	clear(coeffs)
	b.curve()
	if !slices.Equal(curve.Rates, rates) || !slices.Equal(curve.Dists, dists) {
		t.Errorf("the curve becomes %v", curve)
	}
	clear(curve.Rates[:cap(curve.Rates)])
	if !slices.Equal(curve.Dists, dists) {
		t.Error("rates and distortions share memory")
	}
	a, v, m := []int{1, -2, 3, 77}, []int{4, 5, -6, 77}, []int{0, 1, 2, 77}
	distort.Total(a[:3], v[:3], m[:3], 8, 16, 1)
	if !slices.Equal(a, []int{1, -2, 3, 77}) || !slices.Equal(v, []int{4, 5, -6, 77}) || !slices.Equal(m, []int{0, 1, 2, 77}) {
		t.Errorf("the arguments of Total become %v, %v, %v", a, v, m)
	}
}

// The examples of the chapter.
func TestExamples(t *testing.T) {
	if a, b, c := distort.Weight(3, 0), distort.Weight(3, 9), distort.Weight(0, 0); a != 16 || b != 1 || c != 1 {
		t.Errorf("the weights are %d, %d and %d", a, b, c)
	}
	if a, b := distort.Error(-20, -2, 0, 8, 16), distort.Error(100000, 0, 0, 1, 16); a != 1 || b != 32767 {
		t.Errorf("the errors are %d and %d", a, b)
	}
	if n, e := distort.Total([]int{5, -20}, []int{0, -2}, []int{0, 0}, 8, 16, 4); n != 104 || e != api.OK {
		t.Errorf("Total = %d, %d", n, e)
	}
	c, e := blockenc.Encode(make([]int, 12), 4, 3, api.LH, api.Mode{})
	curve, f := distort.Curve([]int{1, 2, 3, 4, 5, 6, 7, 8, 9, 10, 11, 12}, c, 4, 3, api.LH, api.Mode{}, 16, 16, 2, 0)
	if e != api.OK || f != api.OK || !slices.Equal(curve.Rates, []int{0}) || !slices.Equal(curve.Dists, []int{1300}) {
		t.Errorf("the curve of zeros is %v, %d, %d", curve, e, f)
	}
}
