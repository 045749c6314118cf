package extend_test

import (
	"math"
	"slices"
	"testing"

	"wavelet/api"
	"wavelet/extend"
)

// walk returns the indices that the symmetric extension of a signal from lo to hi - 1 takes for the indices from lo on: up to the last one, back to the first one, and so on.
func walk(lo, hi, n int) []int {
	l := make([]int, n)
	at, direction := lo, 1
	for i := range l {
		l[i] = at
		if at+direction < lo || at+direction >= hi {
			direction = -direction
		}
		if hi-lo > 1 {
			at += direction
		}
	}
	return l
}

// numbered returns n samples that all differ.
func numbered(n int) []int {
	x := make([]int, n)
	for i := range x {
		x[i] = 1000 + 7*i
	}
	return x
}

// outside are numbers that are not in [0, MaxSide].
var outside = []int{math.MinInt, math.MinInt + 1, -api.MaxSide, -2, -1, api.MaxSide + 1, api.MaxSide + 2, math.MaxInt - 1, math.MaxInt}

// beyond are numbers that are not in the range of Mirror.
var beyond = []int{math.MinInt, math.MinInt + 1, -api.MaxValue - 1, api.MaxValue + 1, math.MaxInt - 1, math.MaxInt}

// P3.1
func TestMirrorWalksBackAndForth(t *testing.T) {
	for lo := -6; lo <= 6; lo++ {
		for hi := lo + 1; hi <= lo+8; hi++ {
			for distance, want := range walk(lo, hi, 40) {
				if j := extend.Mirror(lo+distance, lo, hi); j != want {
					t.Fatalf("Mirror(%d, %d, %d) = %d; expected %d", lo+distance, lo, hi, j, want)
				}
				if j := extend.Mirror(lo-distance, lo, hi); j != want {
					t.Fatalf("Mirror(%d, %d, %d) = %d; expected %d", lo-distance, lo, hi, j, want)
				}
			}
		}
	}
}

// P3.1
func TestMirrorAtTheEndsOfItsRange(t *testing.T) {
	const m = api.MaxValue
	for _, c := range []struct{ i, lo, hi, want int }{
		{m, 0, 4, 2},
		{-m, 0, 4, 2},
		{m - 1, m - 1, m, m - 1},
		{m, m - 1, m, m - 1},
		{-m, m - 1, m, m - 1},
		{m, m - 3, m, m - 2},
		{-m, -m, -m + 1, -m},
		{m, -m, -m + 2, -m},
		{m - 1, -m, -m + 2, -m + 1},
		{m, -m, m, m - 2},
		{-m, -m, m, -m},
		{0, -m, m, 0},
		{m - 1, -m, m, m - 1},
		{-m, 0, m, m - 2},
		{m, -m, 0, -m + 2},
		{-m, 5, 6, 5},
	} {
		if j := extend.Mirror(c.i, c.lo, c.hi); j != c.want {
			t.Errorf("Mirror(%d, %d, %d) = %d; expected %d", c.i, c.lo, c.hi, j, c.want)
		}
	}
}

// P3.1
func TestMirrorOfNoSignal(t *testing.T) {
	for _, c := range [][2]int{{4, 4}, {4, 3}, {0, 0}, {1, -1}, {-3, -3}, {-3, -4}, {api.MaxValue, -api.MaxValue}, {api.MaxValue, api.MaxValue}, {math.MaxInt, math.MinInt}} {
		for _, i := range []int{-api.MaxValue, -5, 0, 1, 3, 4, api.MaxValue} {
			if j := extend.Mirror(i, c[0], c[1]); j != 0 {
				t.Errorf("Mirror(%d, %d, %d) = %d", i, c[0], c[1], j)
			}
		}
	}
	for _, n := range beyond {
		for _, c := range [][3]int{{n, 3, 9}, {n, 3, 4}, {4, n, 9}, {8, n, 9}, {4, 3, n}, {3, 3, n}, {n, n, n + 1}, {n, n - 1, n}, {n, math.MinInt, math.MaxInt}} {
			if j := extend.Mirror(c[0], c[1], c[2]); j != 0 {
				t.Errorf("Mirror(%d, %d, %d) = %d", c[0], c[1], c[2], j)
			}
		}
	}
}

// P3.6
func TestMirrorIsAReflection(t *testing.T) {
	for lo := -5; lo <= 5; lo++ {
		for hi := lo + 1; hi <= lo+7; hi++ {
			for i := -40; i <= 40; i++ {
				j := extend.Mirror(i, lo, hi)
				if j < lo || j >= hi {
					t.Fatalf("Mirror(%d, %d, %d) = %d", i, lo, hi, j)
				}
				if again := extend.Mirror(j, lo, hi); again != j {
					t.Fatalf("Mirror of Mirror(%d, %d, %d) = %d; expected %d", i, lo, hi, again, j)
				}
				for _, reflected := range []int{2*lo - i, 2*(hi-1) - i} {
					if other := extend.Mirror(reflected, lo, hi); other != j {
						t.Fatalf("Mirror(%d, %d, %d) = %d; Mirror of its reflection %d = %d", i, lo, hi, j, reflected, other)
					}
				}
				if hi-lo >= 2 && (i-j)%2 != 0 {
					t.Fatalf("Mirror(%d, %d, %d) = %d: one is even, the other is odd", i, lo, hi, j)
				}
			}
		}
	}
}

// P3.2
func TestCountsCountsTheIndices(t *testing.T) {
	for start := range 9 {
		even, odd := 0, 0
		for n := range 20 {
			if a, b := extend.Counts(start, n); a != even || b != odd {
				t.Errorf("Counts(%d, %d) = %d, %d; expected %d, %d", start, n, a, b, even, odd)
			}
			if (start+n)%2 == 0 {
				even++
			} else {
				odd++
			}
		}
	}
}

// P3.2
func TestCountsAtTheLimits(t *testing.T) {
	for _, c := range []struct{ start, n, even, odd int }{
		{0, api.MaxSide, 2048, 2048},
		{api.MaxSide, api.MaxSide, 2048, 2048},
		{api.MaxSide, 1, 1, 0},
		{api.MaxSide - 1, 1, 0, 1},
		{api.MaxSide, 0, 0, 0},
		{1, api.MaxSide - 1, 2047, 2048},
		{0, api.MaxSide - 1, 2048, 2047},
	} {
		if even, odd := extend.Counts(c.start, c.n); even != c.even || odd != c.odd {
			t.Errorf("Counts(%d, %d) = %d, %d; expected %d, %d", c.start, c.n, even, odd, c.even, c.odd)
		}
	}
	for _, n := range outside {
		for _, c := range [][2]int{{n, 0}, {n, 1}, {n, 7}, {n, api.MaxSide}, {0, n}, {3, n}, {api.MaxSide, n}, {n, n}, {n, -n}} {
			if even, odd := extend.Counts(c[0], c[1]); even != 0 || odd != 0 {
				t.Errorf("Counts(%d, %d) = %d, %d", c[0], c[1], even, odd)
			}
		}
	}
}

// P3.3
func TestSplitDividesByIndex(t *testing.T) {
	for _, start := range []int{0, 1, 2, 7, 4095, 4096} {
		for n := range 12 {
			x := numbered(n)
			var even, odd []int
			for i, v := range x {
				if (start+i)%2 == 0 {
					even = append(even, v)
				} else {
					odd = append(odd, v)
				}
			}
			a, b, e := extend.Split(x, start)
			if e != api.OK || !slices.Equal(a, even) || !slices.Equal(b, odd) {
				t.Errorf("Split(%v, %d) = %v, %v, %d", x, start, a, b, e)
			}
		}
	}
}

// P3.3
func TestSplitAtTheLimits(t *testing.T) {
	for _, start := range []int{0, 1, api.MaxSide} {
		even, odd, e := extend.Split(numbered(api.MaxSide), start)
		if e != api.OK || len(even) != 2048 || len(odd) != 2048 {
			t.Errorf("Split of %d samples from %d: %d even and %d odd ones, error %d", api.MaxSide, start, len(even), len(odd), e)
		}
		even, odd, e = extend.Split(numbered(api.MaxSide+1), start)
		if e != api.ErrRange || len(even) != 0 || len(odd) != 0 {
			t.Errorf("Split of a sample too many from %d: %d even and %d odd ones, error %d", start, len(even), len(odd), e)
		}
	}
	for _, start := range outside {
		for _, n := range []int{0, 1, 2, 5, api.MaxSide, api.MaxSide + 1} {
			if even, odd, e := extend.Split(numbered(n), start); e != api.ErrRange || len(even) != 0 || len(odd) != 0 {
				t.Errorf("Split of %d samples from %d: %d even and %d odd ones, error %d", n, start, len(even), len(odd), e)
			}
		}
	}
}

// P3.4, P3.7
func TestJoinInvertsSplit(t *testing.T) {
	for _, start := range []int{0, 1, 2, 3, 4095, 4096} {
		for _, n := range []int{0, 1, 2, 3, 4, 5, 6, 7, 4095, 4096} {
			x := numbered(n)
			even, odd, e := extend.Split(x, start)
			if e != api.OK {
				t.Fatalf("Split of %d samples from %d: error %d", n, start, e)
			}
			if back, e := extend.Join(even, odd, start); e != api.OK || !slices.Equal(back, x) {
				t.Errorf("Join of Split of %d samples from %d: error %d, or another signal", n, start, e)
			}
		}
	}
}

// P3.4
func TestJoinNeedsTheCountsOfSplit(t *testing.T) {
	for start := range 4 {
		for a := range 6 {
			for b := range 6 {
				even, odd := numbered(a), numbered(b)
				x, e := extend.Join(even, odd, start)
				evens, odds := extend.Counts(start, a+b)
				if evens != a || odds != b {
					if e != api.ErrLength || len(x) != 0 {
						t.Errorf("Join of %d and %d samples from %d = %v, %d; expected ErrLength", a, b, start, x, e)
					}
					continue
				}
				c, d, _ := extend.Split(x, start)
				if e != api.OK || len(x) != a+b || !slices.Equal(c, even) || !slices.Equal(d, odd) {
					t.Errorf("Join of %d and %d samples from %d = %v, %d", a, b, start, x, e)
				}
			}
		}
	}
}

// P3.4
func TestJoinErrorsInTheirOrder(t *testing.T) {
	for _, c := range []struct {
		even, odd, start int
		e                api.Errno
	}{
		{2048, 2048, 0, api.OK},
		{2048, 2048, api.MaxSide, api.OK},
		{2049, 2047, 0, api.ErrLength},
		{2048, 2047, 1, api.ErrLength},
		{0, api.MaxSide, 0, api.ErrLength},
		{api.MaxSide, 0, 0, api.ErrLength},
		{2049, 2048, 0, api.ErrRange},
		{2048, 2049, 1, api.ErrRange},
		{api.MaxSide + 1, 0, 0, api.ErrRange},
		{0, api.MaxSide + 1, 0, api.ErrRange},
		{api.MaxSide, api.MaxSide, 3, api.ErrRange},
	} {
		x, e := extend.Join(numbered(c.even), numbered(c.odd), c.start)
		if e != c.e || e != api.OK && len(x) != 0 {
			t.Errorf("Join of %d and %d samples from %d: %d samples, error %d; expected %d", c.even, c.odd, c.start, len(x), e, c.e)
		}
	}
	for _, start := range outside {
		for _, c := range [][2]int{{0, 0}, {1, 0}, {0, 1}, {2, 2}, {5, 0}, {0, 5}, {2049, 2048}} {
			if x, e := extend.Join(numbered(c[0]), numbered(c[1]), start); e != api.ErrRange || len(x) != 0 {
				t.Errorf("Join of %d and %d samples from %d = %v, %d; expected ErrRange", c[0], c[1], start, x, e)
			}
		}
	}
}

// P3.5
func TestAtReadsTheExtension(t *testing.T) {
	for start := -5; start <= 5; start++ {
		for n := 1; n <= 6; n++ {
			x := numbered(n)
			for distance, j := range walk(start, start+n, 30) {
				for _, i := range []int{start + distance, start - distance} {
					if v, ok := extend.At(x, start, i); v != x[j-start] || !ok {
						t.Fatalf("At(%v, %d, %d) = %d, %v; expected %d", x, start, i, v, ok, x[j-start])
					}
				}
			}
		}
	}
}

// P3.5
func TestAtAtTheEndsOfTheRange(t *testing.T) {
	const m = api.MaxValue
	x := []int{7, 8, 9}
	for _, c := range []struct{ start, i, v int }{
		{-m, -m, 7},
		{-m, -m + 1, 8},
		{m - 3, m - 3, 7},
		{m - 3, m - 1, 9},
		{m - 3, m, 8},
		{0, m, 7},
		{1, m, 8},
		{0, -m, 7},
		{2, -m, 9},
		{-m, m, 7},
	} {
		if v, ok := extend.At(x, c.start, c.i); v != c.v || !ok {
			t.Errorf("At(%v, %d, %d) = %d, %v; expected %d", x, c.start, c.i, v, ok, c.v)
		}
	}
	if v, ok := extend.At(x[:1], m-1, m); v != 7 || !ok {
		t.Errorf("At of a single sample at the end of the range = %d, %v", v, ok)
	}
	// The end of the signal counts, too.
	for _, start := range []int{m - 2, m - 1, m, m + 1} {
		if v, ok := extend.At(x, start, 0); v != 0 || ok {
			t.Errorf("At(%v, %d, 0) = %d, %v", x, start, v, ok)
		}
	}
}

// P3.5
func TestAtOfNothing(t *testing.T) {
	for _, i := range append([]int{-3, 0, 1, 2}, beyond...) {
		for _, x := range [][]int{nil, {}} {
			if v, ok := extend.At(x, 0, i); v != 0 || ok {
				t.Errorf("At(%v, 0, %d) = %d, %v", x, i, v, ok)
			}
			if v, ok := extend.At(x, i, i); v != 0 || ok {
				t.Errorf("At(%v, %d, %d) = %d, %v", x, i, i, v, ok)
			}
		}
	}
	for _, n := range beyond {
		for _, c := range [][2]int{{n, 0}, {0, n}, {3, n}, {n, n}, {n - 1, n}, {n, n + 1}} {
			for _, x := range [][]int{{7}, {7, 8, 9}} {
				if v, ok := extend.At(x, c[0], c[1]); v != 0 || ok {
					t.Errorf("At(%v, %d, %d) = %d, %v", x, c[0], c[1], v, ok)
				}
			}
		}
	}
}

// R6
func TestArgumentsAndResultsAreKeptApart(t *testing.T) {
	for start := range 2 {
		for n := 1; n <= 5; n++ {
			behind := numbered(8)
			before := slices.Clone(behind)
			even, odd, _ := extend.Split(behind[:n], start)
			x, e := extend.Join(even, odd, start)
			if e != api.OK {
				t.Fatalf("Join: error %d", e)
			}
			extend.At(behind[:n], start, -3)
			copies := [][]int{slices.Clone(even), slices.Clone(odd), slices.Clone(x)}
			for i, l := range [][]int{even, odd, x} {
				if !slices.Equal(l, copies[i]) {
					t.Errorf("result %d shares memory with another one", i)
				}
				for j := range l[:cap(l)] {
					l[:cap(l)][j] = -1
				}
			}
			if !slices.Equal(behind, before) {
				t.Errorf("the samples became %v", behind)
			}
			even, odd, _ = extend.Split(behind[:n], start)
			for i := range behind {
				behind[i] = -1
			}
			if slices.Contains(even, -1) || slices.Contains(odd, -1) {
				t.Errorf("Split shares memory with its argument: %v, %v", even, odd)
			}
		}
	}
}

// R6
func TestJoinKeepsItsArguments(t *testing.T) {
	behind := []int{1, 2, 3, 4, 5, 6, 7, 8}
	before := slices.Clone(behind)
	x, e := extend.Join(behind[0:2], behind[4:6], 0)
	if e != api.OK || !slices.Equal(x, []int{1, 5, 2, 6}) || !slices.Equal(behind, before) {
		t.Errorf("Join = %v, %d; the samples became %v", x, e, behind)
	}
	for i := range behind {
		behind[i] = -1
	}
	if slices.Contains(x, -1) {
		t.Errorf("Join shares memory with its arguments: %v", x)
	}
}

// The examples of the chapter.
func TestExamples(t *testing.T) {
	for _, c := range []struct{ i, lo, hi, want int }{{-1, 0, 4, 1}, {4, 0, 4, 2}, {-4, 0, 4, 2}, {9, 5, 6, 5}} {
		if j := extend.Mirror(c.i, c.lo, c.hi); j != c.want {
			t.Errorf("Mirror(%d, %d, %d) = %d; expected %d", c.i, c.lo, c.hi, j, c.want)
		}
	}
	if even, odd := extend.Counts(3, 4); even != 2 || odd != 2 {
		t.Errorf("Counts(3, 4) = %d, %d", even, odd)
	}
	if even, odd := extend.Counts(3, 3); even != 1 || odd != 2 {
		t.Errorf("Counts(3, 3) = %d, %d", even, odd)
	}
	x := []int{7, 8, 9}
	if even, odd, e := extend.Split(x, 3); !slices.Equal(even, []int{8}) || !slices.Equal(odd, []int{7, 9}) || e != api.OK {
		t.Errorf("Split = %v, %v, %d", even, odd, e)
	}
	if back, e := extend.Join([]int{8}, []int{7, 9}, 3); !slices.Equal(back, x) || e != api.OK {
		t.Errorf("Join = %v, %d", back, e)
	}
	if back, e := extend.Join([]int{8, 9}, []int{7}, 3); len(back) != 0 || e != api.ErrLength {
		t.Errorf("Join of two even samples and an odd one = %v, %d", back, e)
	}
	if v, ok := extend.At(x, 3, 2); v != 8 || !ok {
		t.Errorf("At the index 2: %d, %v", v, ok)
	}
	if v, ok := extend.At(x, 3, 7); v != 7 || !ok {
		t.Errorf("At the index 7: %d, %v", v, ok)
	}
	var extension []int
	for i := -3; i <= 4; i++ {
		v, _ := extend.At([]int{'a', 'b', 'c'}, 0, i)
		extension = append(extension, v)
	}
	if !slices.Equal(extension, []int{'b', 'c', 'b', 'a', 'b', 'c', 'b', 'a'}) {
		t.Errorf("the extension of a, b, c from -3 on is %v", extension)
	}
}
