package tagtree_test

import (
	"math"
	"math/rand/v2"
	"slices"
	"testing"

	"wavelet/api"
	"wavelet/bitio"
	"wavelet/tagtree"
)

// place is a node of a tree: its level, column and row.
type place struct{ k, x, y int }

// model is a tag tree that follows the definitions of the chapter.
type model struct {
	w, h   int
	values map[place]int
	low    map[place]int
	known  map[place]bool
}

func newModel(w, h int) *model {
	return &model{w, h, map[place]int{}, map[place]int{}, map[place]bool{}}
}

// depth returns the number of levels.
func depth(w, h int) int {
	n := 1
	for w*h > 1 {
		w, h, n = (w+1)/2, (h+1)/2, n+1
	}
	return n
}

// sum computes the values of all nodes from those of the leaves.
func (m *model) sum() {
	for k, w, h := 1, m.w, m.h; k < depth(m.w, m.h); k++ {
		for p := range m.values {
			if p.k == k {
				delete(m.values, p)
			}
		}
		for x := range w {
			for y := range h {
				v, above := m.values[place{k - 1, x, y}], place{k, x / 2, y / 2}
				if least, ok := m.values[above]; !ok || v < least {
					m.values[above] = v
				}
			}
		}
		w, h = (w+1)/2, (h+1)/2
	}
}

// code codes a leaf up to a threshold, and returns the bits.
func (m *model) code(x, y, threshold int) []int {
	var bits []int
	for k := depth(m.w, m.h) - 1; k >= 0; k-- {
		p, parent := place{k, x >> k, y >> k}, place{k + 1, x >> (k + 1), y >> (k + 1)}
		m.low[p] = max(m.low[p], m.low[parent])
		for m.low[p] < threshold && !m.known[p] {
			if m.values[p] == m.low[p] {
				bits = append(bits, 1)
				m.known[p] = true
			} else {
				bits = append(bits, 0)
				m.low[p]++
			}
		}
	}
	return bits
}

// request asks for a threshold at a leaf.
type request struct{ x, y, threshold int }

// sizes are sizes of small trees.
func sizes() []api.Point {
	l := []api.Point{{X: 17, Y: 1}, {X: 1, Y: 9}, {X: 7, Y: 10}, {X: 33, Y: 2}, {X: 3, Y: 20}}
	for w := range 5 {
		for h := range 5 {
			l = append(l, api.Point{X: w + 1, Y: h + 1})
		}
	}
	return l
}

func newTree(t *testing.T, w, h int) *tagtree.Tree {
	t.Helper()
	tree, e := tagtree.New(w, h)
	if tree == nil || e != api.OK {
		t.Fatalf("New(%d, %d) = %v, %d", w, h, tree, e)
	}
	return tree
}

func set(t *testing.T, tree *tagtree.Tree, x, y, v int) {
	t.Helper()
	if e := tree.Set(x, y, v); e != api.OK {
		t.Fatalf("Set(%d, %d, %d) = %d", x, y, v, e)
	}
}

// filled returns a tree and a model with the same values, which f returns for each leaf.
func filled(t *testing.T, w, h int, f func(x, y int) int) (*tagtree.Tree, *model) {
	t.Helper()
	tree, m := newTree(t, w, h), newModel(w, h)
	for y := range h {
		for x := range w {
			m.values[place{0, x, y}] = f(x, y)
			set(t, tree, x, y, f(x, y))
		}
	}
	m.sum()
	return tree, m
}

// below returns a function that returns random values, for filled the same ones in each call.
func below(source *rand.Rand, n int) func(x, y int) int {
	values := map[place]int{}
	return func(x, y int) int {
		p := place{0, x, y}
		if _, ok := values[p]; !ok {
			values[p] = source.IntN(n)
		}
		return values[p]
	}
}

// bitsOf returns what a writer contains from a bit on.
func bitsOf(t *testing.T, w *bitio.Writer, from int) []int {
	t.Helper()
	r := bitio.NewReader(w.Bytes())
	var l []int
	for range w.Len() {
		bit, e := r.Get()
		if e != api.OK {
			t.Fatalf("Get = %d", e)
		}
		l = append(l, bit)
	}
	return l[from:]
}

// readerOf returns a reader of bits.
func readerOf(t *testing.T, bits []int) *bitio.Reader {
	t.Helper()
	w := bitio.NewWriter()
	for _, bit := range bits {
		if e := w.Put(bit); e != api.OK {
			t.Fatalf("Put(%d) = %d", bit, e)
		}
	}
	return bitio.NewReader(w.Bytes())
}

// expectEncode encodes a leaf and compares the bits.
func expectEncode(t *testing.T, tree *tagtree.Tree, q request, want []int) {
	t.Helper()
	w := bitio.NewWriter()
	w.Bits(5, 3)
	if e := tree.Encode(w, q.x, q.y, q.threshold); e != api.OK {
		t.Fatalf("Encode of %v = %d", q, e)
	}
	if l := bitsOf(t, w, 3); !slices.Equal(l, want) {
		t.Fatalf("Encode of %v wrote %v; expected %v", q, l, want)
	}
}

// expectDecode decodes a leaf and compares the result.
func expectDecode(t *testing.T, tree *tagtree.Tree, r *bitio.Reader, q request, want bool) {
	t.Helper()
	if less, e := tree.Decode(r, q.x, q.y, q.threshold); less != want || e != api.OK {
		t.Fatalf("Decode of %v = %v, %d; expected %v", q, less, e, want)
	}
}

// expectValues compares the leaves that are known with those of a model.
func expectValues(t *testing.T, tree *tagtree.Tree, m *model) {
	t.Helper()
	for y := range m.h {
		for x := range m.w {
			p, want := place{0, x, y}, 0
			if m.known[p] {
				want = m.low[p]
			}
			if v, ok := tree.Value(x, y); v != want || ok != m.known[p] {
				t.Fatalf("Value(%d, %d) = %d, %v; expected %d, %v", x, y, v, ok, want, m.known[p])
			}
		}
	}
}

// integers are numbers at the ends of the integers and near the limits.
var integers = []int{math.MinInt, math.MinInt + 1, -1 << 33, -65536, -1, 0, 1, 2, 255, 256, 257, 65535, 65536, 65537, 1 << 17, 1 << 31, 1 << 32, 1<<32 + 1, 1 << 33, 1 << 62, math.MaxInt}

// newError follows P10.1.
func newError(w, h int) api.Errno {
	switch {
	case w < 1 || h < 1:
		return api.ErrRange
	case w > 65536 || h > 65536 || w > 65536/h:
		return api.ErrLimit
	}
	return api.OK
}

// P10.1, P10.2
func TestNewAndDepth(t *testing.T) {
	for _, w := range integers {
		for _, h := range integers {
			tree, e := tagtree.New(w, h)
			want := newError(w, h)
			if e != want || (tree != nil) != (want == api.OK) {
				t.Errorf("New(%d, %d) = %v, %d; expected %d", w, h, tree != nil, e, want)
			}
			levels := 0
			if want == api.OK {
				levels = depth(w, h)
			}
			if n := tagtree.Depth(w, h); n != levels {
				t.Errorf("Depth(%d, %d) = %d; expected %d", w, h, n, levels)
			}
		}
	}
	for w := 1; w < 70; w++ {
		for h := 1; h < 70; h++ {
			if n := tagtree.Depth(w, h); n != depth(w, h) {
				t.Errorf("Depth(%d, %d) = %d; expected %d", w, h, n, depth(w, h))
			}
		}
	}
}

// P10.1
func TestNewTreesHaveValuesOfZero(t *testing.T) {
	for _, size := range sizes() {
		tree, m := newTree(t, size.X, size.Y), newModel(size.X, size.Y)
		m.sum()
		expectValues(t, tree, m)
		for y := range size.Y {
			for x := range size.X {
				expectEncode(t, tree, request{x, y, 1}, m.code(x, y, 1))
			}
		}
		expectValues(t, tree, m)
	}
}

// P10.1: the corners of the largest trees exist.
func TestLargestTrees(t *testing.T) {
	for _, size := range []api.Point{{X: 65536, Y: 1}, {X: 1, Y: 65536}, {X: 256, Y: 256}, {X: 2, Y: 32768}, {X: 21845, Y: 3}} {
		tree := newTree(t, size.X, size.Y)
		x, y := size.X-1, size.Y-1
		set(t, tree, x, y, 2)
		// The value 2 is that of the nodes that have no other leaf; the others have the value 0.
		single := alone(x, y)
		want := slices.Concat(times(depth(size.X, size.Y)-single, 1), []int{0, 0, 1}, times(single-1, 1))
		expectEncode(t, tree, request{x, y, 3}, want)
		expectEncode(t, tree, request{0, 0, 1}, times(unshared(size, x, y), 1))
		if e := tree.Encode(bitio.NewWriter(), size.X, y, 1); e != api.ErrRange {
			t.Errorf("%v: Encode of the column %d = %d", size, size.X, e)
		}
	}
}

func times(n, bit int) []int { return slices.Repeat([]int{bit}, n) }

// alone returns how many nodes have no leaf but the last one.
func alone(x, y int) int {
	k := 0
	for x>>k<<k == x && y>>k<<k == y && (x>>k > 0 || y>>k > 0) {
		k++
	}
	return k
}

// unshared returns how many nodes the way to the leaf (0, 0) does not share with that to another one.
func unshared(size api.Point, x, y int) int {
	n := 0
	for k := range depth(size.X, size.Y) {
		if x>>k > 0 || y>>k > 0 {
			n++
		}
	}
	return n
}

// P10.3
func TestSetReplacesValues(t *testing.T) {
	source := rand.New(rand.NewPCG(3, 3))
	for _, size := range sizes() {
		tree, m := filled(t, size.X, size.Y, below(source, 7))
		for range 2 * size.X * size.Y {
			x, y, v := source.IntN(size.X), source.IntN(size.Y), source.IntN(7)
			set(t, tree, x, y, v)
			m.values[place{0, x, y}] = v
			m.sum()
			one := *m
			one.low, one.known = map[place]int{}, map[place]bool{}
			expectEncode(t, tree.Clone(), request{x, y, 8}, one.code(x, y, 8))
		}
		expectValues(t, tree, m)
		for y := range size.Y {
			for x := range size.X {
				expectEncode(t, tree, request{x, y, 8}, m.code(x, y, 8))
			}
		}
	}
}

// outside returns leaves that a tree of 5 by 3 leaves does not have.
func outside() []api.Point {
	var l []api.Point
	for _, n := range []int{math.MinInt, -5, -1, 5, 6, 15, 1 << 32, math.MaxInt} {
		l = append(l, api.Point{X: n}, api.Point{X: n, Y: 2}, api.Point{X: n, Y: n})
	}
	for _, n := range []int{math.MinInt, -3, -1, 3, 4, 15, 1 << 32, math.MaxInt} {
		l = append(l, api.Point{Y: n}, api.Point{X: 4, Y: n})
	}
	return l
}

// outOfRange calls f for leaves that a tree of 5 by 3 leaves does not have, and for thresholds out of range.
func outOfRange(f func(x, y, threshold int)) {
	for _, p := range outside() {
		for _, threshold := range []int{math.MinInt, -1, 0, 1, 65536, 65537} {
			f(p.X, p.Y, threshold)
		}
	}
	for _, threshold := range []int{math.MinInt, -65536, -1, 65537, 65538, 1 << 32, math.MaxInt} {
		f(4, 2, threshold)
	}
}

// P10.3
func TestErrorsOfSet(t *testing.T) {
	tree, m := filled(t, 5, 3, func(x, y int) int { return x + y })
	refuse := func(tree *tagtree.Tree, x, y, v int, want api.Errno) {
		t.Helper()
		if e := tree.Set(x, y, v); e != want {
			t.Errorf("Set(%d, %d, %d) = %d; expected %d", x, y, v, e, want)
		}
	}
	coded, decoded := tree.Clone(), tree.Clone()
	expectEncode(t, coded, request{0, 0, 0}, nil)
	expectDecode(t, decoded, bitio.NewReader(nil), request{0, 0, 0}, false)
	for _, p := range outside() {
		for _, v := range []int{math.MinInt, -1, 0, 65535, 65536} {
			refuse(tree, p.X, p.Y, v, api.ErrRange)
			refuse(coded, p.X, p.Y, v, api.ErrState)
		}
	}
	for _, v := range []int{math.MinInt, -65536, -1, 65536, 65537, 1 << 32, math.MaxInt} {
		refuse(tree, 0, 0, v, api.ErrRange)
		refuse(decoded, 0, 0, v, api.ErrState)
	}
	refuse(coded, 0, 0, 7, api.ErrState)
	refuse(decoded, 0, 0, 7, api.ErrState)
	for y := range 3 {
		for x := range 5 {
			want := m.code(x, y, 8)
			expectEncode(t, tree, request{x, y, 8}, want)
			expectEncode(t, coded, request{x, y, 8}, want)
		}
	}
}

// P10.3: a call that fails does not hinder Set.
func TestSetBehindErrors(t *testing.T) {
	tree := newTree(t, 2, 2)
	w, r := bitio.NewWriter(), bitio.NewReader(nil)
	for _, e := range []api.Errno{tree.Encode(nil, 0, 0, 1), tree.Encode(w, 2, 0, 1), tree.Encode(w, 0, 0, 65537)} {
		if e == api.OK {
			t.Error("Encode returned no error")
		}
	}
	for _, q := range []request{{0, 0, 1}, {2, 0, 1}, {0, 0, 65537}} {
		if less, e := tree.Decode(r, q.x, q.y, q.threshold); less || e == api.OK {
			t.Errorf("Decode of %v = %v, %d", q, less, e)
		}
	}
	for _, p := range []api.Point{{}, {X: 1}, {Y: 1}, {X: 1, Y: 1}} {
		set(t, tree, p.X, p.Y, 1)
	}
	expectEncode(t, tree, request{0, 0, 2}, []int{0, 1, 1})
}

// P10.4
func TestErrorsOfEncode(t *testing.T) {
	tree, m := filled(t, 5, 3, func(x, y int) int { return 2*x + y })
	decoded := tree.Clone()
	expectDecode(t, decoded, bitio.NewReader(nil), request{0, 0, 0}, false)
	w := bitio.NewWriter()
	duplicate := *w
	refuse := func(tree *tagtree.Tree, w *bitio.Writer, x, y, threshold int, want api.Errno) {
		t.Helper()
		if e := tree.Encode(w, x, y, threshold); e != want {
			t.Errorf("Encode(%d, %d, %d) = %d; expected %d", x, y, threshold, e, want)
		}
	}
	expect := func(x, y, threshold int) {
		t.Helper()
		refuse(tree, w, x, y, threshold, api.ErrRange)
		refuse(tree, nil, x, y, threshold, api.ErrState)
		refuse(tree, &bitio.Writer{}, x, y, threshold, api.ErrState)
		refuse(tree, &duplicate, x, y, threshold, api.ErrState)
		refuse(decoded, w, x, y, threshold, api.ErrState)
	}
	outOfRange(expect)
	refuse(tree, nil, 4, 2, 65536, api.ErrState)
	refuse(decoded, w, 4, 2, 0, api.ErrState)
	if w.Len() != 0 {
		t.Errorf("Encode wrote %d bits", w.Len())
	}
	expectEncode(t, tree, request{4, 2, 65536}, m.code(4, 2, 65536))
	refuse(tree, nil, 4, 2, 1, api.ErrState)
	expectEncode(t, tree, request{3, 0, 65536}, m.code(3, 0, 65536))
}

// P10.5
func TestErrorsOfDecode(t *testing.T) {
	tree, m := newTree(t, 5, 3), newModel(5, 3)
	m.sum()
	coded := tree.Clone()
	expectEncode(t, coded, request{0, 0, 0}, nil)
	r := bitio.NewReader([]byte{0xF8})
	duplicate := *r
	refuse := func(tree *tagtree.Tree, r *bitio.Reader, x, y, threshold int, want api.Errno) {
		t.Helper()
		if less, e := tree.Decode(r, x, y, threshold); less || e != want {
			t.Errorf("Decode(%d, %d, %d) = %v, %d; expected %d", x, y, threshold, less, e, want)
		}
	}
	expect := func(x, y, threshold int) {
		t.Helper()
		refuse(tree, r, x, y, threshold, api.ErrRange)
		refuse(tree, bitio.NewReader(nil), x, y, threshold, api.ErrRange)
		refuse(tree, nil, x, y, threshold, api.ErrState)
		refuse(tree, &bitio.Reader{}, x, y, threshold, api.ErrState)
		refuse(tree, &duplicate, x, y, threshold, api.ErrState)
		refuse(coded, r, x, y, threshold, api.ErrState)
	}
	outOfRange(expect)
	refuse(tree, nil, 4, 2, 65536, api.ErrState)
	refuse(coded, r, 4, 2, 0, api.ErrState)
	expectDecode(t, tree, r, request{4, 2, 65536}, true)
	m.code(4, 2, 65536)
	expectValues(t, tree, m)
	refuse(tree, nil, 4, 2, 1, api.ErrState)
	if v, e := r.Bits(4); v != 8 || e != api.OK {
		t.Errorf("the bits behind those of the leaf are %d, %d; expected 8", v, e)
	}
}

// P10.5: if a bit is missing, the tree is unchanged, and the bits before it have been read.
func TestDecodeOfTooFewBits(t *testing.T) {
	source := rand.New(rand.NewPCG(5, 5))
	for _, size := range sizes() {
		_, m := filled(t, size.X, size.Y, below(source, 6))
		tree := newTree(t, size.X, size.Y)
		for range 8 {
			q := request{source.IntN(size.X), source.IntN(size.Y), source.IntN(9)}
			used := len(m.low) > 0
			bits := m.code(q.x, q.y, q.threshold)
			for n := range bits {
				expectTruncated(t, tree, q, bits[:n])
			}
			if !used {
				set(t, tree, 0, 0, 0)
			}
			less := m.values[place{0, q.x, q.y}] < q.threshold
			expectDecode(t, tree, readerOf(t, bits), q, less)
			expectValues(t, tree, m)
		}
	}
}

// expectTruncated decodes a leaf from bits that end too early.
func expectTruncated(t *testing.T, tree *tagtree.Tree, q request, bits []int) {
	t.Helper()
	// The bits before these fill the first byte, so that the bytes end where the bits do.
	filler := make([]int, (8-len(bits)%8)%8)
	r := readerOf(t, append(filler, bits...))
	r.Bits(len(filler))
	if less, e := tree.Decode(r, q.x, q.y, q.threshold); less || e != api.ErrTruncated {
		t.Fatalf("Decode of %v from %v = %v, %d; expected ErrTruncated", q, bits, less, e)
	}
	if _, e := r.Get(); e != api.ErrTruncated {
		t.Fatalf("bits of %v have not been read", bits)
	}
}

// P10.5
func TestDecodeOfBadStuffing(t *testing.T) {
	tree := newTree(t, 256, 1)
	r := bitio.NewReader([]byte{0xFF, 0x80})
	for range 2 {
		if less, e := tree.Decode(r, 0, 0, 1); less || e != api.ErrSyntax {
			t.Errorf("Decode = %v, %d; expected ErrSyntax", less, e)
		}
	}
	if _, e := r.Align(); e != api.ErrSyntax {
		t.Errorf("Align = %d: the bits before the error have not been read", e)
	}
	expectDecode(t, tree, bitio.NewReader([]byte{0xFF, 0x40}), request{0, 0, 1}, true)
	if v, ok := tree.Value(0, 0); v != 0 || !ok {
		t.Errorf("Value(0, 0) = %d, %v", v, ok)
	}
}

// P10.4, P10.5, P10.6: values and thresholds at the ends of their ranges.
func TestGreatestValues(t *testing.T) {
	for _, v := range []int{0, 1, 65534, 65535} {
		for _, threshold := range []int{0, 1, 65534, 65535, 65536} {
			tree, m := filled(t, 3, 1, func(x, y int) int { return v })
			bits := m.code(2, 0, threshold)
			expectEncode(t, tree, request{2, 0, threshold}, bits)
			expectValues(t, tree, m)
			decoded := newTree(t, 3, 1)
			expectDecode(t, decoded, readerOf(t, bits), request{2, 0, threshold}, v < threshold)
			expectValues(t, decoded, m)
		}
	}
}

// P10.5, P10.6: a decoder may read more bits 0 than any value has.
func TestDecodeOfNoValue(t *testing.T) {
	tree := newTree(t, 2, 1)
	r := bitio.NewReader(make([]byte, 65536/8+1))
	expectDecode(t, tree, r, request{0, 0, 65536}, false)
	expectDecode(t, tree, r, request{1, 0, 65536}, false)
	if n, e := r.Align(); n != 65536/8 || e != api.OK {
		t.Errorf("Align = %d, %d", n, e)
	}
	if v, ok := tree.Value(0, 0); v != 0 || ok {
		t.Errorf("Value(0, 0) = %d, %v", v, ok)
	}
}

// P10.5: a leaf that is known does not have a value less than each threshold.
func TestDecodeOfKnownLeaves(t *testing.T) {
	tree := newTree(t, 1, 1)
	expectDecode(t, tree, readerOf(t, []int{0, 0, 0, 1}), request{0, 0, 10}, true)
	for threshold := range 10 {
		expectDecode(t, tree, bitio.NewReader(nil), request{0, 0, threshold}, 3 < threshold)
	}
}

// P10.6
func TestValueOfLeavesThatDoNotExist(t *testing.T) {
	tree, _ := filled(t, 5, 3, func(x, y int) int { return 1 })
	for y := range 3 {
		for x := range 5 {
			if v, ok := tree.Value(x, y); v != 0 || ok {
				t.Errorf("Value(%d, %d) = %d, %v before any bit", x, y, v, ok)
			}
		}
	}
	for y := range 3 {
		for x := range 5 {
			if e := tree.Encode(bitio.NewWriter(), x, y, 2); e != api.OK {
				t.Errorf("Encode = %d", e)
			}
			if v, ok := tree.Value(x, y); v != 1 || !ok {
				t.Errorf("Value(%d, %d) = %d, %v", x, y, v, ok)
			}
		}
	}
	for _, p := range outside() {
		if v, ok := tree.Value(p.X, p.Y); v != 0 || ok {
			t.Errorf("Value(%d, %d) = %d, %v", p.X, p.Y, v, ok)
		}
	}
}

// copied returns an independent copy of a model.
func (m *model) copied() *model {
	c := newModel(m.w, m.h)
	for p, v := range m.values {
		c.values[p] = v
	}
	for p, v := range m.low {
		c.low[p] = v
	}
	for p, v := range m.known {
		c.known[p] = v
	}
	return c
}

// P10.7
func TestClonesAreIndependent(t *testing.T) {
	source := rand.New(rand.NewPCG(7, 7))
	for _, size := range sizes() {
		tree, m := filled(t, size.X, size.Y, below(source, 6))
		trees, models := []*tagtree.Tree{tree}, []*model{m}
		decoders := []*tagtree.Tree{newTree(t, size.X, size.Y)}
		for range 60 {
			i := source.IntN(len(trees))
			if len(trees) < 6 {
				trees = append(trees, trees[i].Clone())
				decoders = append(decoders, decoders[i].Clone())
				models = append(models, models[i].copied())
			}
			q := request{source.IntN(size.X), source.IntN(size.Y), source.IntN(8)}
			bits := models[i].code(q.x, q.y, q.threshold)
			expectEncode(t, trees[i], q, bits)
			less := models[i].values[place{0, q.x, q.y}] < q.threshold
			expectDecode(t, decoders[i], readerOf(t, bits), q, less)
			for k := range trees {
				expectValues(t, trees[k], models[k])
				expectValues(t, decoders[k], models[k])
			}
		}
	}
}

// P10.7: values and the state of Set, Encode and Decode are copied, too.
func TestClonesHaveTheSameState(t *testing.T) {
	tree, _ := filled(t, 2, 2, func(x, y int) int { return 3 })
	first, second, third := tree.Clone(), tree.Clone(), tree.Clone()
	set(t, first, 0, 0, 0)
	expectEncode(t, first, request{0, 0, 1}, []int{1, 1})
	expectDecode(t, second, readerOf(t, []int{1, 1}), request{0, 0, 1}, true)
	expectEncode(t, third, request{0, 0, 4}, []int{0, 0, 0, 1, 1})
	set(t, tree, 1, 0, 2)
	expectEncode(t, tree.Clone(), request{0, 0, 4}, []int{0, 0, 1, 0, 1})
	for _, c := range []*tagtree.Tree{first.Clone(), second.Clone(), third.Clone().Clone()} {
		if e := c.Set(0, 0, 0); e != api.ErrState {
			t.Errorf("Set of the clone of a tree that has been used = %d", e)
		}
	}
	if _, e := first.Clone().Decode(bitio.NewReader(nil), 0, 0, 0); e != api.ErrState {
		t.Errorf("Decode of the clone of an encoder = %d", e)
	}
	if e := second.Clone().Encode(bitio.NewWriter(), 0, 0, 0); e != api.ErrState {
		t.Errorf("Encode of the clone of a decoder = %d", e)
	}
}

// expectRound encodes a tree and decodes another one, with the same requests.
func expectRound(t *testing.T, tree *tagtree.Tree, m *model, l []request) {
	t.Helper()
	decoded := newTree(t, m.w, m.h)
	w, want := bitio.NewWriter(), []int(nil)
	most := map[place]int{}
	for _, q := range l {
		before := w.Len()
		if e := tree.Encode(w, q.x, q.y, q.threshold); e != api.OK {
			t.Fatalf("Encode of %v = %d", q, e)
		}
		p := place{0, q.x, q.y}
		if done, ok := most[p]; ok && q.threshold <= done && w.Len() != before {
			t.Fatalf("Encode of %v wrote %d bits, although the leaf had been coded up to %d", q, w.Len()-before, done)
		}
		most[p] = max(most[p], q.threshold)
		want = append(want, m.code(q.x, q.y, q.threshold)...)
	}
	if bits := bitsOf(t, w, 0); !slices.Equal(bits, want) {
		t.Fatalf("the requests %v wrote %v; expected %v", l, bits, want)
	}
	r := bitio.NewReader(append(w.Bytes(), 0xFF))
	for _, q := range l {
		expectDecode(t, decoded, r, q, m.values[place{0, q.x, q.y}] < q.threshold)
	}
	if n, e := r.Align(); n != len(w.Bytes()) || e != api.OK {
		t.Fatalf("Align = %d, %d; expected %d", n, e, len(w.Bytes()))
	}
	expectValues(t, tree, m)
	expectValues(t, decoded, m)
	for p, threshold := range most {
		v := m.values[p]
		if got, ok := decoded.Value(p.x, p.y); v < threshold && (got != v || !ok) {
			t.Fatalf("Value(%d, %d) = %d, %v behind the threshold %d; expected %d", p.x, p.y, got, ok, threshold, v)
		}
	}
}

// P10.4, P10.5, P10.6, P10.8, P10.9
func TestDecodersRestoreWhatEncodersWrote(t *testing.T) {
	source := rand.New(rand.NewPCG(8, 8))
	for _, size := range sizes() {
		for range 40 {
			greatest := 1 + source.IntN(12)
			tree, m := filled(t, size.X, size.Y, below(source, greatest))
			l := make([]request, source.IntN(3*size.X*size.Y+2))
			for i := range l {
				l[i] = request{source.IntN(size.X), source.IntN(size.Y), source.IntN(greatest + 3)}
			}
			expectRound(t, tree, m, l)
		}
	}
}

// P10.4, P10.5, P10.6, P10.8, P10.9
func TestAllRequestsOfASmallTree(t *testing.T) {
	for n := range 27 {
		for k := range 12 * 12 * 12 {
			tree, m := filled(t, 3, 1, func(x, y int) int { return []int{n % 3, n / 3 % 3, n / 9}[x] })
			var l []request
			for _, c := range []int{k % 12, k / 12 % 12, k / 144} {
				l = append(l, request{c % 3, 0, c / 3})
			}
			expectRound(t, tree, m, l)
		}
	}
}

// Rule R7
func TestTreesThatNewOrCloneDidNotReturn(t *testing.T) {
	original, m := filled(t, 2, 1, func(x, y int) int { return x })
	duplicate := *original
	w, r := bitio.NewWriter(), bitio.NewReader([]byte{0xFF, 0})
	for name, tree := range map[string]*tagtree.Tree{"nil": nil, "zero": {}, "copied": &duplicate} {
		for _, q := range []request{{0, 0, 0}, {0, 0, 1}, {1, 0, 65536}, {2, 0, 1}, {0, -1, 1}, {0, 0, -1}, {0, 0, 65537}} {
			if e := tree.Set(q.x, q.y, q.threshold); e != api.ErrState {
				t.Errorf("%s: Set of %v = %d", name, q, e)
			}
			if e := tree.Encode(w, q.x, q.y, q.threshold); e != api.ErrState {
				t.Errorf("%s: Encode of %v = %d", name, q, e)
			}
			if less, e := tree.Decode(r, q.x, q.y, q.threshold); less || e != api.ErrState {
				t.Errorf("%s: Decode of %v = %v, %d", name, q, less, e)
			}
			if v, ok := tree.Value(q.x, q.y); v != 0 || ok {
				t.Errorf("%s: Value of %v = %d, %v", name, q, v, ok)
			}
		}
		if tree.Encode(nil, 0, 0, 0) != api.ErrState {
			t.Errorf("%s: Encode without a writer is not ErrState", name)
		}
		if _, e := tree.Decode(nil, 0, 0, 0); e != api.ErrState {
			t.Errorf("%s: Decode without a reader = %d", name, e)
		}
		if c := tree.Clone(); c != nil {
			t.Errorf("%s: Clone returned a tree", name)
		}
	}
	if n, e := r.Align(); w.Len() != 0 || n != 0 || e != api.OK {
		t.Errorf("%d bits have been written, %d bytes read", w.Len(), n)
	}
	expectEncode(t, original, request{1, 0, 2}, m.code(1, 0, 2))
}

// The examples 1 and 4 of the chapter.
func TestExamplesOfSizes(t *testing.T) {
	for _, c := range []struct{ w, h, depth int }{{1, 1, 1}, {2, 1, 2}, {5, 3, 4}, {65536, 1, 17}, {65537, 1, 0}, {257, 256, 0}, {0, 70000, 0}} {
		if n := tagtree.Depth(c.w, c.h); n != c.depth {
			t.Errorf("Depth(%d, %d) = %d; expected %d", c.w, c.h, n, c.depth)
		}
	}
	for _, c := range []struct {
		w, h int
		e    api.Errno
	}{{65536, 1, api.OK}, {65537, 1, api.ErrLimit}, {257, 256, api.ErrLimit}, {0, 70000, api.ErrRange}} {
		if tree, e := tagtree.New(c.w, c.h); e != c.e || (tree != nil) != (e == api.OK) {
			t.Errorf("New(%d, %d) = %d; expected %d", c.w, c.h, e, c.e)
		}
	}
}

// The examples 2 and 3 of the chapter.
func TestExamplesOfCoding(t *testing.T) {
	tree := newTree(t, 2, 1)
	set(t, tree, 0, 0, 1)
	set(t, tree, 1, 0, 2)
	expectEncode(t, tree, request{0, 0, 2}, []int{0, 1, 1})
	expectEncode(t, tree, request{1, 0, 2}, []int{0})
	expectEncode(t, tree, request{1, 0, 3}, []int{1})
	decoded, r := newTree(t, 2, 1), readerOf(t, []int{0, 1, 1, 0})
	expectDecode(t, decoded, r, request{0, 0, 2}, true)
	expectDecode(t, decoded, r, request{1, 0, 2}, false)
	if v, ok := decoded.Value(0, 0); v != 1 || !ok {
		t.Errorf("Value(0, 0) = %d, %v", v, ok)
	}
	if v, ok := decoded.Value(1, 0); v != 0 || ok {
		t.Errorf("Value(1, 0) = %d, %v", v, ok)
	}
}
