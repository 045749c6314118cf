package context_test

import (
	"math"
	"math/big"
	"math/rand/v2"
	"testing"

	"wavelet/api"
	"wavelet/context"
)

// span is a range of numbers, both ends included.
type span struct{ from, to int }

func (s span) has(n int) bool { return s.from <= n && n <= s.to }

// straightTable is the first table of P13.1: p, s, d and the context.
func straightTable() []struct {
	p, s, d span
	ctx     int
} {
	any2, any4 := span{0, 2}, span{0, 4}
	return []struct {
		p, s, d span
		ctx     int
	}{
		{span{2, 2}, any2, any4, 8},
		{span{1, 1}, span{1, 2}, any4, 7},
		{span{1, 1}, span{0, 0}, span{1, 4}, 6},
		{span{1, 1}, span{0, 0}, span{0, 0}, 5},
		{span{0, 0}, span{2, 2}, any4, 4},
		{span{0, 0}, span{1, 1}, any4, 3},
		{span{0, 0}, span{0, 0}, span{2, 4}, 2},
		{span{0, 0}, span{0, 0}, span{1, 1}, 1},
		{span{0, 0}, span{0, 0}, span{0, 0}, 0},
	}
}

// diagonalTable is the second table of P13.1: d, n and the context.
func diagonalTable() []struct {
	d, n span
	ctx  int
} {
	return []struct {
		d, n span
		ctx  int
	}{
		{span{3, 4}, span{0, 4}, 8},
		{span{2, 2}, span{1, 4}, 7},
		{span{2, 2}, span{0, 0}, 6},
		{span{1, 1}, span{2, 4}, 5},
		{span{1, 1}, span{1, 1}, 4},
		{span{1, 1}, span{0, 0}, 3},
		{span{0, 0}, span{2, 4}, 2},
		{span{0, 0}, span{1, 1}, 1},
		{span{0, 0}, span{0, 0}, 0},
	}
}

// signTable is the table of P13.2: h, v, the context and the flip.
func signTable() [][4]int {
	return [][4]int{
		{1, 1, 13, 0}, {1, 0, 12, 0}, {1, -1, 11, 0},
		{0, 1, 10, 0}, {0, 0, 9, 0}, {0, -1, 10, 1},
		{-1, 1, 11, 1}, {-1, 0, 12, 1}, {-1, -1, 13, 1},
	}
}

// limited replaces n by the nearest number of the range.
func limited(n int, s span) int {
	switch {
	case n < s.from:
		return s.from
	case n > s.to:
		return s.to
	}
	return n
}

// significance is Significance by the tables; exactly one row must apply.
func significance(t *testing.T, o api.Orient, h, v, d int) int {
	t.Helper()
	h, v, d = limited(h, span{0, 2}), limited(v, span{0, 2}), limited(d, span{0, 4})
	var found []int
	if o == api.HH {
		for _, r := range diagonalTable() {
			if r.d.has(d) && r.n.has(h+v) {
				found = append(found, r.ctx)
			}
		}
	} else {
		p, s := h, v
		if o == api.HL {
			p, s = v, h
		}
		for _, r := range straightTable() {
			if r.p.has(p) && r.s.has(s) && r.d.has(d) {
				found = append(found, r.ctx)
			}
		}
	}
	if len(found) != 1 {
		t.Fatalf("the tables have %d rows for %d, %d, %d, %d", len(found), o, h, v, d)
	}
	return found[0]
}

// numbers are small numbers, and those at the ends of the integers.
func numbers() []int {
	l := []int{math.MinInt, math.MinInt + 1, math.MinInt + 2, math.MinInt / 2, -1 << 32, -256}
	for n := -7; n <= 12; n++ {
		l = append(l, n)
	}
	return append(l, 255, 256, 257, 1<<32, 1<<32+1, math.MaxInt/2, math.MaxInt-2, math.MaxInt-1, math.MaxInt)
}

func orients() []api.Orient {
	return []api.Orient{api.LL, api.HL, api.LH, api.HH, 4, 5, 7, 256, 257, math.MaxInt, -1, -2, -3, math.MinInt}
}

// triples calls f for all orientations and all triples of numbers.
func triples(f func(o api.Orient, h, v, d int)) {
	l := numbers()
	for _, o := range orients() {
		for _, h := range l {
			for _, v := range l {
				for _, d := range l {
					f(o, h, v, d)
				}
			}
		}
	}
}

// pairs calls f for all pairs of numbers, and for many others.
func pairs(f func(a, b int)) {
	l := numbers()
	for _, a := range l {
		for _, b := range l {
			f(a, b)
		}
	}
	source := rand.New(rand.NewPCG(13, 1))
	for range 20000 {
		a := int(source.Uint64()) >> source.IntN(64)
		f(a, int(source.Uint64())>>source.IntN(64))
		for off := -2; off <= 2; off++ {
			f(a, -a+off)
		}
	}
}

// The numbers of contexts that the chapter lists.
func TestNumbersOfContexts(t *testing.T) {
	if context.Contexts != 19 || context.RunLength != 17 || context.Uniform != 18 {
		t.Errorf("the constants are %d, %d and %d", context.Contexts, context.RunLength, context.Uniform)
	}
}

// P13.1
func TestSignificance(t *testing.T) {
	triples(func(o api.Orient, h, v, d int) {
		if got, want := context.Significance(o, h, v, d), significance(t, o, h, v, d); got != want {
			t.Fatalf("Significance(%d, %d, %d, %d) = %d; expected %d", o, h, v, d, got, want)
		}
	})
}

// P13.1
func TestUnknownOrientationsAreLL(t *testing.T) {
	triples(func(o api.Orient, h, v, d int) {
		if o >= api.LL && o <= api.HH {
			return
		}
		if got, want := context.Significance(o, h, v, d), context.Significance(api.LL, h, v, d); got != want {
			t.Fatalf("Significance(%d, %d, %d, %d) = %d; for LL it is %d", o, h, v, d, got, want)
		}
	})
}

// P13.2
func TestSign(t *testing.T) {
	table := map[[2]int][2]int{}
	for _, r := range signTable() {
		table[[2]int{r[0], r[1]}] = [2]int{r[2], r[3]}
	}
	pairs(func(h, v int) {
		want := table[[2]int{limited(h, span{-1, 1}), limited(v, span{-1, 1})}]
		if ctx, flip := context.Sign(h, v); ctx != want[0] || flip != want[1] {
			t.Fatalf("Sign(%d, %d) = %d, %d; expected %v", h, v, ctx, flip, want)
		}
	})
}

// P13.3
func TestRefine(t *testing.T) {
	for _, c := range []struct {
		first, neighbors bool
		ctx              int
	}{{false, false, 16}, {false, true, 16}, {true, true, 15}, {true, false, 14}} {
		if n := context.Refine(c.first, c.neighbors); n != c.ctx {
			t.Errorf("Refine(%v, %v) = %d; expected %d", c.first, c.neighbors, n, c.ctx)
		}
	}
}

// P13.4
func TestContribution(t *testing.T) {
	pairs(func(a, b int) {
		want := new(big.Int).Add(big.NewInt(int64(a)), big.NewInt(int64(b))).Sign()
		if n := context.Contribution(a, b); n != want {
			t.Fatalf("Contribution(%d, %d) = %d; expected %d", a, b, n, want)
		}
	})
}

// P13.4
func TestContributionAtTheEnds(t *testing.T) {
	for _, c := range [][3]int{
		{math.MinInt, math.MinInt, -1}, {math.MinInt, math.MaxInt, -1}, {math.MinInt, 0, -1}, {math.MinInt, 1, -1}, {math.MinInt, -1, -1},
		{math.MaxInt, math.MaxInt, 1}, {math.MaxInt, -math.MaxInt, 0}, {math.MaxInt, -math.MaxInt + 1, 1}, {math.MaxInt, 0, 1}, {math.MaxInt, 1, 1},
		{math.MinInt + 1, math.MaxInt, 0}, {math.MinInt + 2, math.MaxInt, 1}, {math.MinInt + 1, math.MaxInt - 1, -1},
	} {
		if n := context.Contribution(c[0], c[1]); n != c[2] {
			t.Errorf("Contribution(%d, %d) = %d; expected %d", c[0], c[1], n, c[2])
		}
		if n := context.Contribution(c[1], c[0]); n != c[2] {
			t.Errorf("Contribution(%d, %d) = %d; expected %d", c[1], c[0], n, c[2])
		}
	}
}

// P13.5
func TestSymmetryOfSignificance(t *testing.T) {
	triples(func(o api.Orient, h, v, d int) {
		if a, b := context.Significance(api.HL, h, v, d), context.Significance(api.LH, v, h, d); a != b {
			t.Fatalf("%d, %d, %d: HL has %d, LH with h and v exchanged %d", h, v, d, a, b)
		}
		if a, b := context.Significance(api.HH, h, v, d), context.Significance(api.HH, v, h, d); a != b {
			t.Fatalf("%d, %d, %d: HH has %d, with h and v exchanged %d", h, v, d, a, b)
		}
	})
}

// P13.5
func TestSymmetryOfSigns(t *testing.T) {
	pairs(func(h, v int) {
		if h == math.MinInt || v == math.MinInt {
			return // its negative is not an integer of the type
		}
		ctx, flip := context.Sign(h, v)
		other, flipped := context.Sign(-h, -v)
		same := h == 0 && v == 0
		if ctx != other || (flip == flipped) != same {
			t.Fatalf("Sign(%d, %d) = %d, %d; of the negatives %d, %d", h, v, ctx, flip, other, flipped)
		}
	})
}

// P13.5
func TestSymmetryOfContributions(t *testing.T) {
	pairs(func(a, b int) {
		n := context.Contribution(a, b)
		if m := context.Contribution(b, a); n != m {
			t.Fatalf("Contribution(%d, %d) = %d, and %d in the other order", a, b, n, m)
		}
		if a == math.MinInt || b == math.MinInt {
			return // its negative is not an integer of the type
		}
		if m := context.Contribution(-a, -b); n != -m {
			t.Fatalf("Contribution(%d, %d) = %d, and %d of the negatives", a, b, n, m)
		}
	})
}

// P13.6
func TestSignificanceDoesNotDecrease(t *testing.T) {
	l := numbers()
	for _, o := range orients() {
		for _, a := range l {
			for _, b := range l {
				for i := 1; i < len(l); i++ {
					from, to := l[i-1], l[i]
					if from >= to {
						t.Fatalf("the numbers do not ascend at %d", i)
					}
					if context.Significance(o, from, a, b) > context.Significance(o, to, a, b) ||
						context.Significance(o, a, from, b) > context.Significance(o, a, to, b) ||
						context.Significance(o, a, b, from) > context.Significance(o, a, b, to) {
						t.Fatalf("from %d to %d beside %d and %d the context decreases (%d)", from, to, a, b, o)
					}
				}
			}
		}
	}
}

// P13.6
func TestRangesOfContexts(t *testing.T) {
	triples(func(o api.Orient, h, v, d int) {
		n := context.Significance(o, h, v, d)
		none := h <= 0 && v <= 0 && d <= 0
		if n < 0 || n > 8 || (n == 0) != none {
			t.Fatalf("Significance(%d, %d, %d, %d) = %d", o, h, v, d, n)
		}
	})
	pairs(func(h, v int) {
		if ctx, flip := context.Sign(h, v); ctx < 9 || ctx > 13 || flip < 0 || flip > 1 {
			t.Fatalf("Sign(%d, %d) = %d, %d", h, v, ctx, flip)
		}
	})
	for i := range 4 {
		if n := context.Refine(i%2 == 0, i/2 == 0); n < 14 || n > 16 {
			t.Errorf("a context of Refine is %d", n)
		}
	}
}

// The examples of the chapter.
func TestExamples(t *testing.T) {
	for _, c := range []struct {
		o            api.Orient
		h, v, d, ctx int
	}{{api.LL, 1, 0, 2, 6}, {api.HL, 1, 0, 2, 3}, {api.HH, 1, 0, 2, 7}, {api.LH, 5, -1, 9, 8}, {api.LH, 2, 0, 4, 8}} {
		if n := context.Significance(c.o, c.h, c.v, c.d); n != c.ctx {
			t.Errorf("Significance(%d, %d, %d, %d) = %d; expected %d", c.o, c.h, c.v, c.d, n, c.ctx)
		}
	}
	for _, c := range [][4]int{{-1, 1, 11, 1}, {0, -7, 10, 1}} {
		if ctx, flip := context.Sign(c[0], c[1]); ctx != c[2] || flip != c[3] {
			t.Errorf("Sign(%d, %d) = %d, %d; expected %d, %d", c[0], c[1], ctx, flip, c[2], c[3])
		}
	}
	if n := context.Refine(true, true); n != 15 {
		t.Errorf("Refine(true, true) = %d", n)
	}
	if a, b := context.Contribution(1, -1), context.Contribution(1, 1); a != 0 || b != 1 {
		t.Errorf("Contribution(1, -1) = %d, Contribution(1, 1) = %d", a, b)
	}
}
