package pkthead_test

import (
	"bytes"
	"fmt"
	"maps"
	"math"
	"math/rand/v2"
	"reflect"
	"slices"
	"strings"
	"testing"

	"wavelet/api"
	"wavelet/pkthead"
)

// extremes are numbers at the ends of the integers and near the limits.
var extremes = []int{math.MinInt, math.MinInt + 1, -1 << 32, -65536, -2, -1, 0, 1, 2, 15, 16, 17, 59, 60, 61, 177, 178, 179, 4095, 4096, 4097, 65535, 65536, 65537, 1 << 32, 1<<32 + 1, 1 << 62, math.MaxInt - 178, math.MaxInt - 1, math.MaxInt}

// tree is a tag tree of the definition (chapter 10).
type tree struct {
	levels int
	low    map[[3]int]int
	known  map[[3]int]bool
}

func newTree(g api.Point) *tree {
	a := &tree{1, map[[3]int]int{}, map[[3]int]bool{}}
	for 1<<(a.levels-1) < max(g.X, g.Y) {
		a.levels++
	}
	return a
}

// code codes a leaf up to a threshold, where a function returns the next bit of a node.
func (a *tree) code(x, y, threshold int, bit func(node [3]int, low int) int) {
	low := 0
	for k := a.levels - 1; k >= 0; k-- {
		node := [3]int{k, x >> k, y >> k}
		low = max(low, a.low[node])
		for low < threshold && !a.known[node] {
			if bit(node, low) == 1 {
				a.known[node] = true
			} else {
				low++
			}
		}
		a.low[node] = low
	}
}

// codeBlock is a code block of the definition.
type codeBlock struct {
	band, x, y                    int
	first, planned                int
	included                      bool
	planes, passes, bytes, digits int
}

// model is a state of the definition.
type model struct {
	grids     []api.Point
	planes    []int
	mode      api.Mode
	blocks    []codeBlock
	layer     int
	inclusion []*tree
	missing   []*tree
}

func newModel(grids []api.Point, planes []int, m api.Mode) *model {
	a := &model{grids: grids, planes: planes, mode: m}
	for i, g := range grids {
		a.inclusion, a.missing = append(a.inclusion, newTree(g)), append(a.missing, newTree(g))
		for k := range g.X * g.Y {
			a.blocks = append(a.blocks, codeBlock{band: i, x: k % g.X, y: k / g.X, digits: 3})
		}
	}
	return a
}

func (m *model) clone() *model {
	c := *m
	c.blocks = slices.Clone(m.blocks)
	copied := func(l []*tree) []*tree {
		var n []*tree
		for _, a := range l {
			n = append(n, &tree{a.levels, maps.Clone(a.low), maps.Clone(a.known)})
		}
		return n
	}
	c.inclusion, c.missing = copied(m.inclusion), copied(m.missing)
	return &c
}

// plan tells the layers in which blocks are first included, and their planes.
func (m *model) plan(first, planes []int) {
	for i := range m.blocks {
		m.blocks[i].first, m.blocks[i].planned = first[i], planes[i]
	}
}

// least returns the value of a node: the minimum of those of its leaves.
func (m *model) least(band int, node [3]int, value func(b codeBlock) int) int {
	least := math.MaxInt
	for _, b := range m.blocks {
		if b.band == band && b.x>>node[0] == node[1] && b.y>>node[0] == node[2] {
			least = min(least, value(b))
		}
	}
	return least
}

func number(v, n int) string { return fmt.Sprintf("%0*b", n, v) }

func gamma(v int) string { return strings.Repeat("0", log(v)) + fmt.Sprintf("%b", v) }

func unary(v int) string { return strings.Repeat("1", v) + "0" }

// log returns the logarithm of a number, rounded down.
func log(v int) int {
	n := 0
	for v > 1 {
		v, n = v/2, n+1
	}
	return n
}

// ends reports whether a segment ends behind the first n passes (P14.8).
func ends(n int, m api.Mode) bool { return m.Restart || m.Bypass && n >= 10 && n%3 != 2 }

// partsOf returns the numbers of passes of the parts of new passes.
func partsOf(before, passes int, m api.Mode) []int {
	var l []int
	n := 0
	for i := range passes {
		n++
		if i == passes-1 || ends(before+i+1, m) {
			l, n = append(l, n), 0
		}
	}
	return l
}

// enough returns the least length bits of a block with which all lengths have enough bits.
func enough(digits int, parts, lengths []int) int {
	for i, n := range lengths {
		for n >= 1<<(digits+log(parts[i])) {
			digits++
		}
	}
	return digits
}

func sum(l []int) int {
	n := 0
	for _, v := range l {
		n += v
	}
	return n
}

// encode returns the bits of a header, and advances the model. Each block has its length bits increased by more than is needed. The contributions need not be possible.
func (m *model) encode(l []api.Contribution, more int) string {
	m.layer++
	if !slices.ContainsFunc(l, func(c api.Contribution) bool { return c.Passes != 0 }) {
		return "0"
	}
	bits := "1"
	for i, c := range l {
		bits += m.encodeBlock(&m.blocks[i], c, more)
	}
	return bits
}

func (m *model) encodeBlock(b *codeBlock, c api.Contribution, more int) (bits string) {
	// writer returns a function that codes a node with a value.
	writer := func(value func(b codeBlock) int) func(node [3]int, low int) int {
		return func(node [3]int, low int) int {
			bit := 0
			if m.least(b.band, node, value) == low {
				bit = 1
			}
			bits += fmt.Sprint(bit)
			return bit
		}
	}
	if b.included {
		bits += fmt.Sprint(min(c.Passes, 1))
	} else {
		m.inclusion[b.band].code(b.x, b.y, m.layer, writer(func(b codeBlock) int { return b.first }))
	}
	if c.Passes == 0 {
		return bits
	}
	if !b.included {
		b.included, b.planes = true, b.planned
		for threshold := 1; threshold <= m.planes[b.band]-b.planned+1; threshold++ {
			m.missing[b.band].code(b.x, b.y, threshold, writer(func(b codeBlock) int { return m.planes[b.band] - b.planned }))
		}
	}
	parts := partsOf(b.passes, c.Passes, m.mode)
	digits := enough(b.digits, parts, c.Lengths) + more
	bits += gamma(c.Passes) + unary(digits-b.digits)
	for i, n := range c.Lengths {
		bits += number(n, digits+log(parts[i]))
	}
	b.passes, b.bytes, b.digits = b.passes+c.Passes, b.bytes+sum(c.Lengths), digits
	return bits
}

// pack returns the bytes of a bit string (chapter 9).
func pack(bits string) []byte {
	var b []byte
	stuffed := func() bool { return len(b) > 0 && b[len(b)-1] == 0xFF }
	for bits != "" {
		n := 8
		if stuffed() {
			n = 7
		}
		v := 0
		for range n {
			v *= 2
			if bits != "" {
				v += int(bits[0] - '0')
				bits = bits[1:]
			}
		}
		b = append(b, byte(v))
	}
	if stuffed() {
		b = append(b, 0)
	}
	return b
}

// failure is why a header is rejected.
type failure struct {
	e   api.Errno
	why string
}

// input reads bits by the definitions of chapter 9. It panics with a failure.
type input struct {
	b    []byte
	at   int // bytes that have been begun
	left int // bits of the last one of them that have not been read
}

func (s *input) bit() int {
	if s.left == 0 {
		if s.at == len(s.b) {
			panic(failure{api.ErrTruncated, "end"})
		}
		s.left = 8
		if s.at > 0 && s.b[s.at-1] == 0xFF {
			if s.b[s.at] >= 0x80 {
				panic(failure{api.ErrSyntax, "stuffing"})
			}
			s.left = 7
		}
		s.at++
	}
	s.left--
	return int(s.b[s.at-1]) >> s.left & 1
}

func (s *input) number(v, n int) int {
	for range n {
		v = 2*v + s.bit()
	}
	return v
}

// run reads equal bits and another one.
func (s *input) run(equal, most int, why string) int {
	n := 0
	for s.bit() == equal {
		if n++; n > most {
			panic(failure{api.ErrSyntax, why})
		}
	}
	return n
}

func (s *input) align() int {
	if s.b[s.at-1]&(1<<s.left-1) != 0 {
		panic(failure{api.ErrSyntax, "padding"})
	}
	if s.b[s.at-1] == 0xFF {
		if s.at == len(s.b) {
			panic(failure{api.ErrTruncated, "last byte"})
		}
		if s.b[s.at] != 0 {
			panic(failure{api.ErrSyntax, "last byte is not 0"})
		}
		s.at++
	}
	return s.at
}

// decode returns what Decode should return, and the reason of an error. It advances the model if there is none.
func (m *model) decode(b []byte) (l []api.Contribution, n int, f failure) {
	next := m.clone()
	defer func() {
		if r := recover(); r != nil {
			l, n, f = nil, 0, r.(failure)
			return
		}
		*m = *next
	}()
	s := &input{b: b}
	filled := s.bit() == 1
	for i := range next.blocks {
		c := api.Contribution{}
		if filled {
			c = next.decodeBlock(s, &next.blocks[i])
		}
		c.Planes = next.blocks[i].planes
		l = append(l, c)
	}
	if filled && !slices.ContainsFunc(l, func(c api.Contribution) bool { return c.Passes > 0 }) {
		panic(failure{api.ErrPacket, "nothing"})
	}
	n = s.align()
	next.layer++
	return l, n, failure{}
}

func (m *model) decodeBlock(s *input, b *codeBlock) (c api.Contribution) {
	leaf, read := [3]int{0, b.x, b.y}, func([3]int, int) int { return s.bit() }
	must := func(ok bool, why string) {
		if !ok {
			panic(failure{api.ErrPacket, why})
		}
	}
	if b.included {
		if s.bit() == 0 {
			return c
		}
	} else {
		a := m.inclusion[b.band]
		a.code(b.x, b.y, m.layer+1, read)
		if !a.known[leaf] {
			return c
		}
		must(a.low[leaf] == m.layer, "early")
		a, most := m.missing[b.band], m.planes[b.band]
		for threshold := 1; threshold <= most && !a.known[leaf]; threshold++ {
			a.code(b.x, b.y, threshold, read)
		}
		must(a.known[leaf], "planes")
		b.included, b.planes = true, most-a.low[leaf]
	}
	n := s.run(0, 31, "gamma")
	c.Passes = s.number(1, n)
	must(b.passes+c.Passes <= 3*b.planes-2, "passes")
	before := b.digits
	b.digits += s.run(1, 65535, "unary")
	must(b.digits <= 16, "digits")
	parts := partsOf(b.passes, c.Passes, m.mode)
	for _, n := range parts {
		c.Lengths = append(c.Lengths, s.number(0, b.digits+log(n)))
	}
	must(enough(before, parts, c.Lengths) == b.digits, "increase")
	b.passes, b.bytes = b.passes+c.Passes, b.bytes+sum(c.Lengths)
	must(b.bytes <= 65535, "bytes")
	return c
}

// newState returns a state.
func newState(t *testing.T, grids []api.Point, planes []int, m api.Mode) *pkthead.State {
	t.Helper()
	s, e := pkthead.New(grids, planes, m)
	if s == nil || e != api.OK {
		t.Fatalf("New(%v, %v, %v) = %v, %d", grids, planes, m, s, e)
	}
	return s
}

// expectPlan plans with success.
func expectPlan(t *testing.T, s *pkthead.State, first, planes []int) {
	t.Helper()
	if e := s.Plan(first, planes); e != api.OK {
		t.Fatalf("Plan(%v, %v) = %d", first, planes, e)
	}
}

// same reports whether contributions are equal, where nil and empty slices are.
func same(a, b []api.Contribution) bool {
	return slices.EqualFunc(a, b, func(c, d api.Contribution) bool {
		return c.Planes == d.Planes && c.Passes == d.Passes && slices.Equal(c.Lengths, d.Lengths)
	})
}

// expectEncode encodes with success, and checks the bytes and the state.
func expectEncode(t *testing.T, s *pkthead.State, m *model, l []api.Contribution) []byte {
	t.Helper()
	b, e := s.Encode(l)
	if want := pack(m.encode(l, 0)); e != api.OK || !bytes.Equal(b, want) {
		t.Fatalf("Encode(%v) = %x, %d; expected %x", l, b, e, want)
	}
	expectPasses(t, s, m)
	return b
}

// expectPasses checks the passes of all blocks.
func expectPasses(t *testing.T, s *pkthead.State, m *model) {
	t.Helper()
	if n := s.Blocks(); n != len(m.blocks) {
		t.Fatalf("Blocks is %d; expected %d", n, len(m.blocks))
	}
	for i, b := range m.blocks {
		if n := s.Passes(i); n != b.passes {
			t.Fatalf("Passes(%d) = %d; expected %d", i, n, b.passes)
		}
	}
}

// expectDecode checks Decode of any bytes against the model. It returns why they are rejected.
func expectDecode(t *testing.T, s *pkthead.State, m *model, b []byte) string {
	t.Helper()
	want, wantN, f := m.decode(b)
	if l, n, e := s.Decode(b); e != f.e || n != wantN || !same(l, want) {
		t.Fatalf("Decode(%x) = %v, %d, %d; expected %v, %d, %d (%s)", b, l, n, e, want, wantN, f.e, f.why)
	}
	expectPasses(t, s, m)
	return f.why
}

// drawnMode returns a mode.
func drawnMode(source *rand.Rand) api.Mode {
	flag := func() bool { return source.IntN(2) == 1 }
	return api.Mode{Bypass: flag(), Restart: source.IntN(3) == 0, Reset: flag(), Causal: flag(), Symbols: flag()}
}

// drawnSizes returns grids and planes of a small precinct.
func drawnSizes(source *rand.Rand) (grids []api.Point, planes []int) {
	for range source.IntN(4) {
		g := api.Point{}
		switch source.IntN(6) {
		case 0:
		case 1:
			g = api.Point{X: 1 + source.IntN(9), Y: 1}
		case 2:
			g = api.Point{X: 1, Y: 1 + source.IntN(9)}
		default:
			g = api.Point{X: 1 + source.IntN(4), Y: 1 + source.IntN(4)}
		}
		n := 1 + source.IntN(6)
		if source.IntN(3) == 0 {
			n = source.IntN(61)
		}
		grids, planes = append(grids, g), append(planes, n)
	}
	return grids, planes
}

// drawnPlan returns a plan.
func drawnPlan(source *rand.Rand, m *model) (first, planes []int) {
	for _, b := range m.blocks {
		most, layer := m.planes[b.band], source.IntN(source.IntN(17)+1)
		if source.IntN(8) == 0 || most == 0 {
			layer = api.MaxLayers
		}
		n := most
		if most > 0 && source.IntN(2) == 0 {
			n = 1 + source.IntN(most)
		}
		if layer == api.MaxLayers {
			n = source.IntN(most + 1)
		}
		first, planes = append(first, layer), append(planes, n)
	}
	return first, planes
}

// drawn returns a state with a plan, and its model.
func drawn(t *testing.T, source *rand.Rand) (*pkthead.State, *model) {
	t.Helper()
	grids, planes := drawnSizes(source)
	mode := drawnMode(source)
	s, m := newState(t, grids, planes, mode), newModel(grids, planes, mode)
	first, planned := drawnPlan(source, m)
	m.plan(first, planned)
	expectPlan(t, s, first, planned)
	return s, m
}

// contributions returns possible ones of the next layer.
func contributions(source *rand.Rand, m *model) []api.Contribution {
	var l []api.Contribution
	sparse := source.IntN(4) == 0
	for _, b := range m.blocks {
		left := 3*b.planned - 2 - b.passes
		n := 0
		switch {
		case m.layer == b.first:
			n = 1 + source.IntN(1+source.IntN(left))
		case m.layer > b.first && left > 0 && !sparse:
			n = source.IntN(1 + source.IntN(left+1))
		}
		if n == 0 {
			l = append(l, api.Contribution{Planes: extremes[source.IntN(len(extremes))]}) // ignored
			continue
		}
		l = append(l, api.Contribution{Planes: b.planned, Passes: n, Lengths: lengths(source, partsOf(b.passes, n, m.mode), 65535-b.bytes)})
	}
	return l
}

// lengths returns lengths of parts, with at most so many bytes in all.
func lengths(source *rand.Rand, parts []int, most int) []int {
	l := make([]int, len(parts))
	width := source.IntN(17)
	for i := range l {
		switch source.IntN(8) {
		case 0:
			l[i] = most
		case 1:
			l[i] = 0
		default:
			l[i] = min(most, source.IntN(1<<source.IntN(width+1)))
		}
		most -= l[i]
	}
	return l
}

// decoded returns contributions as a decoder returns them, behind a header of the model with them.
func decoded(m *model, l []api.Contribution) []api.Contribution {
	var want []api.Contribution
	for i, c := range l {
		want = append(want, api.Contribution{Planes: m.blocks[i].planes, Passes: c.Passes, Lengths: c.Lengths})
	}
	return want
}

// junk returns any bytes; many of them are 0 or 255.
func junk(source *rand.Rand, n int) []byte {
	b := make([]byte, n)
	for i := range b {
		b[i] = []byte{0, 255, byte(source.Uint32()), byte(source.Uint32())}[source.IntN(4)]
	}
	return b
}

// P26.3, P26.4, P26.7, P26.8, P26.9: headers of all layers, written and read
func TestHeaders(t *testing.T) {
	source := rand.New(rand.NewPCG(26, 1))
	for range 1500 {
		s, m := drawn(t, source)
		reader, readerModel := newState(t, m.grids, m.planes, m.mode), newModel(m.grids, m.planes, m.mode)
		total := make([]int, len(m.blocks))
		for range api.MaxLayers {
			l := contributions(source, m)
			b := expectEncode(t, s, m, l)
			long := append(slices.Clone(b), junk(source, source.IntN(200))...)
			got, n, e := reader.Decode(long)
			want := decoded(m, l)
			if e != api.OK || n != len(b) || !same(got, want) {
				t.Fatalf("Decode(%x) = %v, %d, %d; expected %v, %d", long, got, n, e, want, len(b))
			}
			if l, n, f := readerModel.decode(long); f.e != api.OK || n != len(b) || !same(l, want) {
				t.Fatalf("the model decodes %x as %v, %d, %v; expected %v, %d", long, l, n, f, want, len(b))
			}
			expectPasses(t, reader, m)
			for i, c := range got {
				if total[i] += c.Passes; total[i] != reader.Passes(i) || total[i] != s.Passes(i) {
					t.Fatalf("block %d has had %d passes", i, total[i])
				}
			}
		}
		expectState(t, s)
		expectState(t, reader)
	}
}

// expectState checks that all methods with errors return ErrState.
func expectState(t *testing.T, s *pkthead.State) {
	t.Helper()
	n := s.Blocks()
	if e := s.Plan(slices.Repeat([]int{api.MaxLayers}, n), make([]int, n)); e != api.ErrState {
		t.Fatalf("Plan = %d", e)
	}
	expectNoHeaders(t, s)
}

// expectNoHeaders checks that Encode and Decode return ErrState.
func expectNoHeaders(t *testing.T, s *pkthead.State) {
	t.Helper()
	expectNoEncode(t, s)
	expectNoDecode(t, s)
}

func expectNoEncode(t *testing.T, s *pkthead.State) {
	t.Helper()
	for _, l := range [][]api.Contribution{make([]api.Contribution, s.Blocks()), make([]api.Contribution, s.Blocks()+1), slices.Repeat([]api.Contribution{{Passes: -1}}, s.Blocks())} {
		if b, e := s.Encode(l); len(b) != 0 || e != api.ErrState {
			t.Fatalf("Encode(%v) = %x, %d", l, b, e)
		}
	}
}

func expectNoDecode(t *testing.T, s *pkthead.State) {
	t.Helper()
	for _, b := range [][]byte{nil, {}, {0}, {0xFF}, {210, 10}} {
		if l, n, e := s.Decode(b); len(l) != 0 || n != 0 || e != api.ErrState {
			t.Fatalf("Decode(%x) = %v, %d, %d", b, l, n, e)
		}
	}
}

// P26.2, P26.3, P26.4: the orders in which methods may be called
func TestStates(t *testing.T) {
	grids, planes := []api.Point{{X: 1, Y: 1}}, []int{3}
	fresh := func() *pkthead.State { return newState(t, grids, planes, api.Mode{}) }
	one := []api.Contribution{{Planes: 2, Passes: 4, Lengths: []int{5}}}

	s := fresh()
	expectNoEncode(t, s)
	if l, n, e := s.Decode(nil); len(l) != 0 || n != 0 || e != api.ErrTruncated {
		t.Fatalf("Decode of no bytes = %v, %d, %d", l, n, e)
	}
	if l, n, e := s.Decode([]byte{0x80}); len(l) != 0 || n != 0 || e != api.ErrPacket {
		t.Fatalf("Decode of no block = %v, %d, %d", l, n, e)
	}
	for _, n := range []int{0, 4, -1, math.MaxInt, math.MinInt} {
		if e := s.Plan([]int{0}, []int{n}); e != api.ErrRange {
			t.Fatalf("Plan with %d planes = %d", n, e)
		}
	}
	expectNoEncode(t, s)
	expectPlan(t, s, []int{0}, []int{2}) // neither a header that fails nor a plan that fails counts
	if e := s.Plan([]int{0}, []int{2}); e != api.ErrState {
		t.Fatalf("Plan twice = %d", e)
	}
	if e := s.Plan(nil, nil); e != api.ErrState {
		t.Fatalf("Plan twice = %d", e)
	}
	expectNoDecode(t, s)
	if b, e := s.Encode(one); !bytes.Equal(b, []byte{210, 10}) || e != api.OK {
		t.Fatalf("Encode = %v, %d", b, e)
	}
	if e := s.Plan([]int{0}, []int{2}); e != api.ErrState {
		t.Fatalf("Plan after Encode = %d", e)
	}
	expectNoDecode(t, s)

	for _, b := range [][]byte{{0}, {210, 10}} {
		s = fresh()
		if _, n, e := s.Decode(b); n != len(b) || e != api.OK {
			t.Fatalf("Decode = %d, %d", n, e)
		}
		for _, first := range [][]int{{0}, {16}, {17}, {}, {1, 2}} {
			if e := s.Plan(first, []int{2}); e != api.ErrState {
				t.Fatalf("Plan after Decode = %d", e)
			}
		}
		expectNoEncode(t, s)
	}
}

// P26.3, P26.4: one header more than MaxLayers
func TestMostLayers(t *testing.T) {
	for _, grids := range [][]api.Point{nil, {{X: 1, Y: 1}}} {
		planes := make([]int, len(grids))
		s, reader := newState(t, grids, planes, api.Mode{}), newState(t, grids, planes, api.Mode{})
		n := s.Blocks()
		expectPlan(t, s, slices.Repeat([]int{16}, n), make([]int, n))
		for range 16 {
			if b, e := s.Encode(make([]api.Contribution, n)); !bytes.Equal(b, []byte{0}) || e != api.OK {
				t.Fatalf("Encode = %x, %d", b, e)
			}
			if l, k, e := reader.Decode([]byte{0}); !same(l, make([]api.Contribution, n)) || k != 1 || e != api.OK {
				t.Fatalf("Decode = %v, %d, %d", l, k, e)
			}
		}
		expectState(t, s)
		expectState(t, reader)
		expectState(t, s.Clone())
		expectState(t, reader.Clone())
	}
}

// newError follows P26.1.
func newError(grids []api.Point, planes []int) api.Errno {
	if len(grids) != len(planes) || len(grids) > 3 {
		return api.ErrLength
	}
	blocks := 0
	for i, g := range grids {
		none := g.X == 0 && g.Y == 0
		some := g.X >= 1 && g.X <= 4096 && g.Y >= 1 && g.Y <= 4096
		if !none && !some || planes[i] < 0 || planes[i] > 60 {
			return api.ErrRange
		}
		blocks += g.X * g.Y
	}
	if blocks > 65536 {
		return api.ErrLimit
	}
	return api.OK
}

// expectNew checks New against P26.1.
func expectNew(t *testing.T, grids []api.Point, planes []int) {
	t.Helper()
	want := newError(grids, planes)
	s, e := pkthead.New(grids, planes, api.Mode{})
	if e != want || (s != nil) != (e == api.OK) {
		t.Fatalf("New(%v, %v) = %v, %d; expected %d", grids, planes, s, e, want)
	}
	if s == nil {
		return
	}
	blocks := 0
	for _, g := range grids {
		blocks += g.X * g.Y
	}
	if s.Blocks() != blocks {
		t.Fatalf("Blocks of %v is %d", grids, s.Blocks())
	}
	for _, i := range append([]int{blocks - 1, blocks}, extremes...) {
		if n := s.Passes(i); n != 0 {
			t.Fatalf("Passes(%d) of a new state is %d", i, n)
		}
	}
}

// P26.1
func TestNew(t *testing.T) {
	none, one := api.Point{}, api.Point{X: 1, Y: 1}
	expectNew(t, nil, nil)
	expectNew(t, []api.Point{}, nil)
	expectNew(t, nil, []int{})
	expectNew(t, nil, []int{61})
	for grids := range 6 {
		for planes := range 6 {
			for _, g := range []api.Point{none, one, {X: -1, Y: 1}, {X: 4096, Y: 4096}} {
				for _, n := range []int{0, 60, 61} {
					expectNew(t, slices.Repeat([]api.Point{g}, grids), slices.Repeat([]int{n}, planes))
				}
			}
		}
	}
	for _, x := range extremes {
		for _, y := range extremes {
			for i := range 3 {
				grids := []api.Point{one, none, {X: 2, Y: 3}}
				grids[i] = api.Point{X: x, Y: y}
				expectNew(t, grids, []int{60, 0, 4})
			}
		}
	}
	for _, n := range extremes {
		for i := range 3 {
			planes := []int{60, 0, 4}
			planes[i] = n
			expectNew(t, []api.Point{one, none, {X: 2, Y: 3}}, planes)
			expectNew(t, []api.Point{{X: 4096, Y: 4096}, none, {X: 2, Y: 3}}, planes) // too many blocks, but ErrRange goes first
		}
	}
}

// P26.1: just 65536 blocks, and one more
func TestMostBlocks(t *testing.T) {
	for _, grids := range [][]api.Point{
		{{X: 256, Y: 256}},
		{{X: 16, Y: 4096}},
		{{X: 4096, Y: 16}},
		{{X: 255, Y: 257}, {X: 1, Y: 1}},
		{{X: 128, Y: 128}, {X: 4096, Y: 8}, {X: 4, Y: 4096}},
		{{X: 1, Y: 4096}, {X: 1, Y: 4096}, {X: 14, Y: 4096}},
	} {
		blocks := 0
		for _, g := range grids {
			blocks += g.X * g.Y
		}
		if blocks != 65536 {
			t.Fatalf("%v has %d blocks", grids, blocks)
		}
		expectNew(t, grids, make([]int, len(grids)))
		if len(grids) < 3 {
			expectNew(t, append(slices.Clone(grids), api.Point{X: 1, Y: 1}), make([]int, len(grids)+1))
		}
		for i := range grids {
			more := slices.Clone(grids)
			more[i].X++
			expectNew(t, more, make([]int, len(grids)))
		}
	}
	expectNew(t, []api.Point{{X: 1, Y: 1}, {X: 256, Y: 256}}, []int{1, 1})
	expectNew(t, []api.Point{{X: 3, Y: 4096}, {X: 3, Y: 4096}, {X: 11, Y: 4096}}, []int{1, 1, 1})
	expectNew(t, []api.Point{{X: 17, Y: 4096}, {}}, []int{1, 1})
}

// P26.3, P26.4: precincts of as many blocks as there can be
func TestLargePrecincts(t *testing.T) {
	source := rand.New(rand.NewPCG(26, 2))
	for _, grids := range [][]api.Point{{{X: 256, Y: 256}}, {{X: 4096, Y: 1}, {X: 3, Y: 4096}, {X: 200, Y: 245}}} {
		planes := []int{60, 7, 28}[:len(grids)]
		s, reader := newState(t, grids, planes, api.Mode{Bypass: true}), newState(t, grids, planes, api.Mode{Bypass: true})
		m := newModel(grids, planes, api.Mode{Bypass: true})
		first, planned := drawnPlan(source, m)
		m.plan(first, planned)
		expectPlan(t, s, first, planned)
		for m.layer = range 3 {
			l := contributions(source, m)
			b, e := s.Encode(l)
			if e != api.OK {
				t.Fatalf("Encode = %d", e)
			}
			for i, c := range l {
				k := &m.blocks[i]
				k.passes, k.bytes = k.passes+c.Passes, k.bytes+sum(c.Lengths)
				if c.Passes > 0 {
					k.planes = k.planned
				}
			}
			got, n, e := reader.Decode(append(b, 255, 255))
			if e != api.OK || n != len(b) || !same(got, decoded(m, l)) {
				t.Fatalf("Decode of %d bytes has %d and returns %d", len(b), n, e)
			}
		}
	}
}

// planError follows P26.2.
func planError(m *model, first, planes []int) api.Errno {
	if len(first) != len(m.blocks) || len(planes) != len(m.blocks) {
		return api.ErrLength
	}
	for i, b := range m.blocks {
		least := 1
		if first[i] == 16 {
			least = 0
		}
		if first[i] < 0 || first[i] > 16 || planes[i] < least || planes[i] > m.planes[b.band] {
			return api.ErrRange
		}
	}
	return api.OK
}

// P26.2
func TestPlan(t *testing.T) {
	source := rand.New(rand.NewPCG(26, 3))
	counts := map[api.Errno]int{}
	for range 4000 {
		grids, planes := drawnSizes(source)
		s, m := newState(t, grids, planes, api.Mode{}), newModel(grids, planes, api.Mode{})
		first, planned := drawnPlan(source, m)
		for range 3 {
			f, p := slices.Clone(first), slices.Clone(planned)
			for range source.IntN(3) {
				spoil(source, m, &f, &p)
			}
			want := planError(m, f, p)
			counts[want]++
			if e := s.Plan(f, p); e != want {
				t.Fatalf("Plan(%v, %v) of %v, %v = %d; expected %d", f, p, grids, planes, e, want)
			}
			if want == api.OK {
				first, planned = f, p
				break
			}
			expectNoEncode(t, s)
		}
		if e := s.Plan(first, planned); e != api.OK && e != api.ErrState {
			t.Fatalf("Plan(%v, %v) of %v, %v = %d", first, planned, grids, planes, e)
		}
		m.plan(first, planned)
		for range 4 {
			expectEncode(t, s, m, contributions(source, m))
		}
	}
	for _, e := range []api.Errno{api.OK, api.ErrLength, api.ErrRange} {
		if counts[e] < 100 {
			t.Errorf("Plan returned %d only %d times", e, counts[e])
		}
	}
}

// spoil changes one number of a plan, or its length.
func spoil(source *rand.Rand, m *model, first, planes *[]int) {
	l := []*[]int{first, planes}[source.IntN(2)]
	switch n := len(*l); {
	case n == 0 || source.IntN(8) == 0:
		*l = append(*l, 1)
	case source.IntN(8) == 0:
		*l = (*l)[:source.IntN(n)]
	default:
		i := source.IntN(n)
		near := []int{0, 1, 15, 16, 17, -1, extremes[source.IntN(len(extremes))]}
		if i < len(m.blocks) {
			p := m.planes[m.blocks[i].band]
			near = append(near, p, p+1, p-1)
		}
		(*l)[i] = near[source.IntN(len(near))]
	}
}

// encodeError follows P26.3.
func encodeError(m *model, l []api.Contribution) api.Errno {
	if len(l) != len(m.blocks) {
		return api.ErrLength
	}
	for i, c := range l {
		b := m.blocks[i]
		switch {
		case c.Passes < 0,
			c.Passes == 0 && m.layer == b.first,
			c.Passes > 0 && m.layer < b.first,
			c.Passes > 0 && c.Planes != b.planned,
			c.Passes > 3*b.planned-2-b.passes && c.Passes > 0:
			return api.ErrRange
		}
	}
	for i, c := range l {
		if len(c.Lengths) != len(partsOf(m.blocks[i].passes, c.Passes, m.mode)) {
			return api.ErrLength
		}
	}
	for i, c := range l {
		left := 65535 - m.blocks[i].bytes
		for _, n := range c.Lengths {
			if n < 0 || n > left {
				return api.ErrRange
			}
			left -= n
		}
	}
	return api.OK
}

// disturb changes one number of a contribution, or a number of elements.
func disturb(source *rand.Rand, m *model, l []api.Contribution) []api.Contribution {
	if len(l) == 0 || source.IntN(20) == 0 {
		return append(l, api.Contribution{})
	}
	if source.IntN(20) == 0 {
		return l[:len(l)-1]
	}
	i := source.IntN(len(l))
	c, extreme := &l[i], extremes[source.IntN(len(extremes))]
	switch source.IntN(7) {
	case 0:
		c.Passes = extreme
	case 1:
		c.Passes += 1 - 2*source.IntN(2)
	case 2:
		c.Passes = 0
	case 3:
		c.Planes += 1 - 2*source.IntN(2)
	case 4:
		c.Planes = extreme
	case 5:
		if n := len(c.Lengths); n > 0 && source.IntN(2) == 0 {
			c.Lengths = c.Lengths[:n-1]
		} else {
			c.Lengths = append(c.Lengths, extreme)
		}
	default:
		for k := range c.Lengths {
			if source.IntN(2) == 0 {
				c.Lengths[k] = extreme
			}
		}
		if i < len(m.blocks) && len(c.Lengths) > 0 && source.IntN(2) == 0 {
			clear(c.Lengths)
			c.Lengths[source.IntN(len(c.Lengths))] = 65535 - m.blocks[i].bytes + source.IntN(2)
		}
	}
	return l
}

// copied returns contributions with memory of their own.
func copied(l []api.Contribution) []api.Contribution {
	l = slices.Clone(l)
	for i := range l {
		l[i].Lengths = slices.Clone(l[i].Lengths)
	}
	return l
}

// P26.3: errors, in their order, of contributions with up to three faults; they leave the state as it is
func TestEncodeErrors(t *testing.T) {
	source := rand.New(rand.NewPCG(26, 4))
	counts := map[api.Errno]int{}
	for range 3000 {
		s, m := drawn(t, source)
		for range 5 {
			l := contributions(source, m)
			for range 6 {
				wrong := copied(l)
				for range 1 + source.IntN(3) {
					wrong = disturb(source, m, wrong)
				}
				want := encodeError(m, wrong)
				counts[want]++
				if want == api.OK {
					expectEncode(t, s.Clone(), m.clone(), wrong)
				} else if b, e := s.Encode(wrong); len(b) != 0 || e != want {
					t.Fatalf("Encode(%v) in layer %d of %+v = %x, %d; expected %d", wrong, m.layer, m.blocks, b, e, want)
				}
			}
			expectEncode(t, s, m, l)
		}
	}
	for _, e := range []api.Errno{api.OK, api.ErrLength, api.ErrRange} {
		if counts[e] < 1000 {
			t.Errorf("Encode returned %d only %d times", e, counts[e])
		}
	}
}

// P26.3: each kind of fault in one block, and a kind with an earlier error in the other one
func TestEncodeOrder(t *testing.T) {
	fresh := func() *pkthead.State {
		s := newState(t, []api.Point{{X: 2, Y: 1}}, []int{5}, api.Mode{Restart: true})
		expectPlan(t, s, []int{0, 0}, []int{4, 5})
		return s
	}
	good := api.Contribution{Planes: 4, Passes: 2, Lengths: []int{3, 4}}
	other := api.Contribution{Planes: 5, Passes: 1, Lengths: []int{0}}
	early := []api.Contribution{{}, {Planes: 4, Passes: -1}, {Planes: 5, Passes: 2, Lengths: []int{1, 1}}, {Planes: 3, Passes: 1, Lengths: []int{1}}, {Planes: 4, Passes: 11, Lengths: make([]int, 11)}, {Planes: 4, Passes: math.MaxInt}}
	middle := []api.Contribution{{Planes: 4, Passes: 2}, {Planes: 4, Passes: 2, Lengths: []int{1}}, {Planes: 4, Passes: 2, Lengths: []int{1, 2, 3}}}
	late := []api.Contribution{{Planes: 4, Passes: 2, Lengths: []int{1, -1}}, {Planes: 4, Passes: 2, Lengths: []int{math.MaxInt, math.MaxInt}}, {Planes: 4, Passes: 2, Lengths: []int{65535, 1}}, {Planes: 4, Passes: 2, Lengths: []int{-1, 65536}}, {Planes: 4, Passes: 2, Lengths: []int{math.MinInt, math.MinInt}}, {Planes: 4, Passes: 2, Lengths: []int{65536, -1}}}
	expect := func(want api.Errno, l ...api.Contribution) {
		t.Helper()
		s := fresh()
		if b, e := s.Encode(l); e != want || len(b) != 0 && e != api.OK {
			t.Errorf("Encode(%v) = %x, %d; expected %d", l, b, e, want)
		}
	}
	expect(api.OK, good, other)
	expect(api.OK, api.Contribution{Planes: 4, Passes: 2, Lengths: []int{65535, 0}}, other)
	expect(api.OK, api.Contribution{Planes: 4, Passes: 10, Lengths: make([]int, 10)}, other)
	for _, c := range early {
		expect(api.ErrRange, c, other)
		expect(api.ErrRange, c, api.Contribution{Planes: 5, Passes: 1})
		expect(api.ErrLength, c)
		expect(api.ErrLength, c, other, other)
	}
	for _, c := range middle {
		expect(api.ErrLength, c, other)
		expect(api.ErrRange, c, api.Contribution{})
		expect(api.ErrLength, c, api.Contribution{Planes: 5, Passes: 1, Lengths: []int{-1}})
	}
	for _, c := range late {
		expect(api.ErrRange, c, other)
		expect(api.ErrLength, c, api.Contribution{Planes: 5, Passes: 1})
	}
}

// P26.3: a block that has all its bytes or all its passes, and contributes nothing more
func TestFullBlocks(t *testing.T) {
	s := newState(t, []api.Point{{X: 1, Y: 1}}, []int{2}, api.Mode{})
	expectPlan(t, s, []int{0}, []int{2})
	m := newModel([]api.Point{{X: 1, Y: 1}}, []int{2}, api.Mode{})
	m.plan([]int{0}, []int{2})
	reject := func(c api.Contribution) {
		t.Helper()
		if b, e := s.Encode([]api.Contribution{c}); len(b) != 0 || e != api.ErrRange {
			t.Errorf("Encode(%v) = %x, %d", c, b, e)
		}
	}
	expectEncode(t, s, m, []api.Contribution{{Planes: 2, Passes: 3, Lengths: []int{65535}}})
	reject(api.Contribution{Planes: 2, Passes: 1, Lengths: []int{1}})
	reject(api.Contribution{Planes: 2, Passes: 2, Lengths: []int{0}})
	reject(api.Contribution{Planes: 0, Passes: 1, Lengths: []int{0}})
	expectEncode(t, s, m, []api.Contribution{{Planes: 2, Passes: 1, Lengths: []int{0}}})
	reject(api.Contribution{Planes: 2, Passes: 1, Lengths: []int{0}})
	reject(api.Contribution{Planes: 2, Passes: math.MaxInt, Lengths: []int{0}})
	expectEncode(t, s, m, []api.Contribution{{Planes: 77}})
}

// variants returns a header that is cut off at each byte or ends in each bit, has each bit changed, or has other bytes behind it.
func variants(source *rand.Rand, b []byte) [][]byte {
	var l [][]byte
	step := 1 + len(b)/60
	for n := 0; n <= len(b); n += step {
		l = append(l, slices.Clone(b[:n]), append(slices.Clone(b[:n]), junk(source, 1+source.IntN(12))...))
	}
	for bit := 0; bit < 8*len(b); bit += step {
		c := slices.Clone(b)
		c[bit/8] ^= 128 >> (bit % 8)
		l = append(l, c, append(c[:len(c):len(c)], junk(source, 9)...))
		c = slices.Clone(b[:bit/8+1])
		c[bit/8] &^= 255 >> (bit % 8)
		l = append(l, c, append(c[:len(c):len(c)], 0, 0, 0))
	}
	return l
}

// P26.4: damaged headers; a header that fails leaves the state as it is
func TestDamagedHeaders(t *testing.T) {
	source := rand.New(rand.NewPCG(26, 5))
	reasons := map[string]int{}
	for range 60 {
		_, m := drawn(t, source)
		if len(m.blocks) == 0 {
			continue
		}
		s, reader := newState(t, m.grids, m.planes, m.mode), newModel(m.grids, m.planes, m.mode)
		for range 5 {
			l := contributions(source, m)
			b := pack(m.encode(l, 0))
			for _, damaged := range variants(source, b) {
				next, nextModel := s.Clone(), reader.clone()
				if why := expectDecode(t, next, nextModel, damaged); why != "" {
					reasons[why]++
					expectDecode(t, next, nextModel, b)
				}
			}
			if why := expectDecode(t, s, reader, b); why != "" {
				t.Fatalf("the header %x is rejected (%s)", b, why)
			}
		}
	}
	expectReasons(t, reasons, 20, "end", "stuffing", "planes", "passes", "digits", "increase", "bytes", "nothing", "padding")
}

// expectReasons checks that headers were rejected for each of some reasons often enough.
func expectReasons(t *testing.T, reasons map[string]int, least int, want ...string) {
	t.Helper()
	for _, why := range want {
		if reasons[why] < least {
			t.Errorf("headers were rejected for the reason %q only %d times", why, reasons[why])
		}
	}
}

// P26.4: any bytes, some of them mostly bits 0 or mostly bits 1, header after header
func TestAnyBytes(t *testing.T) {
	source := rand.New(rand.NewPCG(26, 6))
	reasons, layers := map[string]int{}, 0
	for range 20000 {
		grids, planes := drawnSizes(source)
		if len(grids) > 2 || source.IntN(2) == 0 {
			grids, planes = []api.Point{{X: 1 + source.IntN(2), Y: 1 + source.IntN(2)}}, []int{source.IntN(8)}
		}
		mode := drawnMode(source)
		s, m := newState(t, grids, planes, mode), newModel(grids, planes, mode)
		many := source.IntN(4)
		for range 5 {
			b := make([]byte, source.IntN(40))
			for i := range b {
				b[i] = byte(source.Uint32())
				switch many {
				case 0:
					b[i] &= byte(source.Uint32())
				case 1:
					b[i] |= byte(source.Uint32())
				}
			}
			if source.IntN(4) == 0 {
				b = append([]byte{0}, b...)
			}
			why := expectDecode(t, s, m, b)
			reasons[why]++
			if why == "" {
				layers++
			}
		}
	}
	expectReasons(t, reasons, 20, "", "end", "stuffing", "early", "planes", "passes", "digits", "increase", "nothing", "padding")
	if layers < 10000 {
		t.Errorf("only %d headers were accepted", layers)
	}
}

// forge returns the bits of the next header with a fault of a kind. The model becomes one of an encoder that makes the fault.
func forge(source *rand.Rand, m *model, kind int) string {
	l, more := contributions(source, m), 0
	i := source.IntN(len(l))
	b := &m.blocks[i]
	setPasses := func(n int) {
		l[i] = api.Contribution{Passes: n, Lengths: lengths(source, partsOf(b.passes, n, m.mode), 65535-b.bytes)}
		b.first = min(b.first, m.layer)
	}
	switch kind {
	case 0: // just too many passes, or far too many
		setPasses(max(1, 3*b.planned-2-b.passes+1+source.IntN(3)*source.IntN(60)))
	case 1: // a needless increase
		more = 1 + source.IntN(2)
	case 2: // just too many bytes, or just as many as there may be
		if l[i].Passes > 0 {
			clear(l[i].Lengths)
			l[i].Lengths[source.IntN(len(l[i].Lengths))] = 65535 - b.bytes + source.IntN(2)
		}
	case 3: // a block that should have contributed earlier
		if !b.included {
			b.first = source.IntN(m.layer + 1)
			setPasses(1)
			b.first = min(b.first, source.IntN(m.layer+1))
		}
	case 4: // no planes
		if !b.included {
			b.planned = 0
			setPasses(1)
		}
	case 5: // too many length bits
		more = 14
	case 6: // nothing contributes
		for k := range l {
			l[k] = api.Contribution{}
			m.blocks[k].first = max(m.blocks[k].first, m.layer+1)
		}
		m.layer++
		bits := "1"
		for k, c := range l {
			bits += m.encodeBlock(&m.blocks[k], c, 0)
		}
		return bits
	}
	return m.encode(l, more)
}

// P26.4: headers of encoders that do not keep the rules
func TestForgedHeaders(t *testing.T) {
	source := rand.New(rand.NewPCG(26, 7))
	reasons := map[string]int{}
	for range 6000 {
		_, m := drawn(t, source)
		if len(m.blocks) == 0 {
			continue
		}
		s, reader := newState(t, m.grids, m.planes, m.mode), newModel(m.grids, m.planes, m.mode)
		for range 4 {
			forger := m.clone()
			bits := forge(source, forger, source.IntN(7))
			next, nextModel := s.Clone(), reader.clone()
			if why := expectDecode(t, next, nextModel, append(pack(bits), junk(source, source.IntN(4))...)); why != "" {
				reasons[why]++
			}
			l := contributions(source, m)
			if source.IntN(3) == 0 { // an empty packet, behind which blocks may be included too early
				for i := range l {
					l[i] = api.Contribution{}
				}
			}
			b := pack(m.encode(l, 0))
			expectDecode(t, next, nextModel, b)
			expectDecode(t, s, reader, b)
		}
	}
	expectReasons(t, reasons, 20, "early", "planes", "passes", "digits", "increase", "bytes", "nothing")
}

// P26.4: numbers that bitio does not accept, and the most bits that it reads; of one plane or of 60
func TestLongCodes(t *testing.T) {
	first := "1" + "1" + "1" // one block of one plane, which contributes in layer 0
	expect := func(want string, bits string) {
		t.Helper()
		for _, planes := range []int{1, 60} {
			grids := []api.Point{{X: 1, Y: 1}}
			for _, m := range []api.Mode{{}, {Restart: true}} {
				s, reader := newState(t, grids, []int{planes}, m), newModel(grids, []int{planes}, m)
				if why := expectDecode(t, s, reader, pack(bits)); why != want && planes == 1 {
					t.Errorf("a header of %d bits is rejected for %q; expected %q", len(bits), why, want)
				}
				if n := len(bits); n > 1000 {
					expectDecode(t, s, reader, pack(bits[:n-1]))
					expectDecode(t, s, reader, pack(bits[:n-1]+"1"))
				}
			}
		}
	}
	expect("", first+"1"+"0"+"000")
	expect("gamma", first+strings.Repeat("0", 32))
	expect("gamma", first+strings.Repeat("0", 33)+"1")
	expect("end", first+strings.Repeat("0", 29))
	expect("passes", first+strings.Repeat("0", 31)+strings.Repeat("1", 32))
	expect("passes", first+strings.Repeat("0", 31)+"1"+strings.Repeat("0", 31))
	expect("passes", first+"010")
	expect("passes", first+"00000000"+"101100110")
	expect("passes", first+"0000000"+"10110011")
	expect("digits", first+"1"+strings.Repeat("1", 14)+"0")
	expect("increase", first+"1"+strings.Repeat("1", 13)+"0"+strings.Repeat("0", 16))
	expect("", first+"1"+strings.Repeat("1", 13)+"0"+strings.Repeat("1", 16))
	expect("", first+"1"+strings.Repeat("1", 13)+"0"+"1"+strings.Repeat("0", 15))
	expect("increase", first+"1"+strings.Repeat("1", 13)+"0"+"0"+strings.Repeat("1", 15))
	expect("digits", first+"1"+strings.Repeat("1", 65535)+"0")
	expect("unary", first+"1"+strings.Repeat("1", 65536))
	expect("unary", first+"1"+strings.Repeat("1", 70000))
	expect("end", first+"1"+strings.Repeat("1", 65531))
}

// P26.4: a subband without planes, of which no block can be included
func TestNoPlanes(t *testing.T) {
	grids, planes := []api.Point{{X: 1, Y: 1}, {X: 1, Y: 1}}, []int{0, 1}
	for bits, want := range map[string]string{
		"0":         "",
		"11":        "planes", // no bits of missing planes
		"100":       "nothing",
		"101":       "planes", // the block of the other subband has one bit of missing planes, here the padding
		"1011":      "end",
		"101110000": "",
	} {
		s, m := newState(t, grids, planes, api.Mode{}), newModel(grids, planes, api.Mode{})
		if why := expectDecode(t, s, m, pack(bits)); why != want {
			t.Errorf("the header %s is rejected for %q; expected %q", bits, why, want)
		}
	}
}

// P26.10, P26.7: headers of many lengths, all of whose last bits are 1, whatever follows them
func TestLastByte(t *testing.T) {
	grids, mode, full, lengthsSeen := []api.Point{{X: 1, Y: 1}}, api.Mode{Restart: true}, 0, map[int]bool{}
	for missing := range 60 {
		for passes := 1; passes <= 3*(60-missing)-2; passes++ {
			m := newModel(grids, []int{60}, mode)
			m.plan([]int{0}, []int{60 - missing})
			b := pack(m.encode([]api.Contribution{{Passes: passes, Lengths: slices.Repeat([]int{7}, passes)}}, 0))
			if n := len(b); n < 2 || b[n-2] != 0xFF || b[n-1] != 0 {
				continue
			}
			full++
			lengthsSeen[len(b)] = true
			for _, behind := range [][]byte{{}, {0}, {255}, {0, 255}} {
				s := newState(t, grids, []int{60}, mode)
				if _, n, e := s.Decode(append(slices.Clone(b), behind...)); n != len(b) || e != api.OK {
					t.Fatalf("Decode(%x) with %x behind it = %d, %d", b, behind, n, e)
				}
				s = newState(t, grids, []int{60}, mode)
				want := api.ErrSyntax
				if len(behind) == 0 {
					want = api.ErrTruncated
				}
				if _, n, e := s.Decode(append(slices.Clone(b[:len(b)-1]), behind...)); len(behind) < 1 || behind[0] != 0 {
					if n != 0 || e != want {
						t.Fatalf("Decode(%x) with %x instead of the last byte = %d, %d", b, behind, n, e)
					}
				} else if n != len(b) || e != api.OK {
					t.Fatalf("Decode(%x) = %d, %d", b, n, e)
				}
			}
		}
	}
	if full < 300 || len(lengthsSeen) < 60 {
		t.Errorf("only %d headers of %d lengths end in a byte 255", full, len(lengthsSeen))
	}
}

// P26.10
func TestPrefixes(t *testing.T) {
	source := rand.New(rand.NewPCG(26, 8))
	for i := range 300 {
		grids, planes, mode := []api.Point{{X: 1 + i%3, Y: 1}}, []int{60}, api.Mode{Restart: true}
		if i%2 == 0 {
			grids, planes = drawnSizes(source)
			mode = drawnMode(source)
		}
		m := newModel(grids, planes, mode)
		first, planned := drawnPlan(source, m)
		m.plan(first, planned)
		s := newState(t, grids, planes, mode)
		for range 4 {
			b := pack(m.encode(contributions(source, m), 0))
			for n := range b {
				if l, k, e := s.Decode(b[:n]); len(l) != 0 || k != 0 || e != api.ErrTruncated {
					t.Fatalf("Decode(%x), which is cut off, = %v, %d, %d", b[:n], l, k, e)
				}
			}
			if _, n, e := s.Decode(append(b, 255)); n != len(b) || e != api.OK {
				t.Fatalf("Decode(%x) = %d, %d", b, n, e)
			}
			expectPasses(t, s, m)
		}
	}
}

// P26.8
func TestEmptyPackets(t *testing.T) {
	source := rand.New(rand.NewPCG(26, 9))
	for range 300 {
		s, m := drawn(t, source)
		reader := newState(t, m.grids, m.planes, m.mode)
		for m.layer < 12 {
			l := contributions(source, m)
			empty := m.layer > 0 && !slices.ContainsFunc(m.blocks, func(b codeBlock) bool { return b.first == m.layer })
			if empty {
				for i := range l {
					l[i] = api.Contribution{Planes: -1}
				}
			}
			before := m.clone()
			b := expectEncode(t, s, m, l)
			got, _, e := reader.Decode(b)
			if e != api.OK || !same(got, decoded(m, l)) {
				t.Fatalf("Decode(%x) = %v, %d", b, got, e)
			}
			if !empty {
				continue
			}
			if !bytes.Equal(b, []byte{0}) || !slices.Equal(before.blocks, m.blocks) {
				t.Fatalf("the header of an empty packet is %x", b)
			}
		}
	}
}

// P26.5, P26.9
func TestParts(t *testing.T) {
	for i := range 8 {
		others := i&4 > 0 // they have no effect
		m := api.Mode{Bypass: i&1 > 0, Restart: i&2 > 0, Reset: others, Causal: others, Symbols: others}
		for before := range 180 {
			for passes := -1; passes <= 180; passes++ {
				want := partsOf(before, passes, m)
				if passes < 1 || before+passes > 178 {
					want = nil
				}
				l := pkthead.Parts(before, passes, m)
				if !slices.Equal(l, want) {
					t.Fatalf("Parts(%d, %d, %v) = %v; expected %v", before, passes, m, l, want)
				}
				if want != nil && (sum(l) != passes || slices.Min(l) < 1) {
					t.Fatalf("Parts(%d, %d, %v) = %v", before, passes, m, l)
				}
			}
		}
		for _, before := range extremes {
			for _, passes := range extremes {
				if l := pkthead.Parts(before, passes, m); (len(l) > 0) != (0 <= before && before <= 178 && 1 <= passes && passes <= 178-before) {
					t.Fatalf("Parts(%d, %d, %v) = %v", before, passes, m, l)
				}
			}
		}
	}
}

// P26.9: parts of passes in two steps
func TestPartsInSteps(t *testing.T) {
	for i := range 4 {
		m := api.Mode{Bypass: i&1 > 0, Restart: i&2 > 0}
		for b := range 40 {
			for n := 1; n < 40; n++ {
				for k := 1; k < 20; k++ {
					whole := pkthead.Parts(b, n+k, m)
					steps := append(pkthead.Parts(b, n, m), pkthead.Parts(b+n, k, m)...)
					more := 1
					if ends(b+n, m) {
						more = 0
					}
					if len(steps) != len(whole)+more {
						t.Fatalf("Parts(%d, %d) is %v in one step, and %v in two", b, n+k, whole, steps)
					}
				}
			}
		}
	}
}

// P26.6: clones in every layer, of encoders and of decoders
func TestClone(t *testing.T) {
	source := rand.New(rand.NewPCG(26, 10))
	for range 300 {
		s, m := drawn(t, source)
		reader := newState(t, m.grids, m.planes, m.mode)
		unplanned := reader.Clone()
		for range 6 {
			other, otherModel, otherReader := s.Clone(), m.clone(), reader.Clone()
			if other == s || otherReader == reader {
				t.Fatal("a clone is the state itself")
			}
			play := func(s, reader *pkthead.State, m *model) {
				t.Helper()
				l := contributions(source, m)
				b := expectEncode(t, s, m, l)
				if got, n, e := reader.Decode(b); e != api.OK || n != len(b) || !same(got, decoded(m, l)) {
					t.Fatalf("Decode(%x) = %v, %d, %d", b, got, n, e)
				}
				expectPasses(t, reader, m)
			}
			before := m.clone()
			play(other, otherReader, otherModel)
			play(other.Clone(), otherReader.Clone(), otherModel.clone())
			expectPasses(t, s, before)
			expectPasses(t, reader, before)
			play(s, reader, m)
			if other, l := s.Clone(), contributions(source, m); len(m.blocks) > 0 {
				expectEncode(t, other, m.clone(), l)
				expectNoDecode(t, other)
				expectNoEncode(t, otherReader)
			}
		}
		first, planned := drawnPlan(source, m)
		expectPlan(t, unplanned.Clone(), first, planned)
		expectPlan(t, unplanned, first, planned)
		if e := unplanned.Clone().Plan(first, planned); e != api.ErrState {
			t.Fatalf("Plan of a clone that has a plan = %d", e)
		}
	}
}

// Rule R7
func TestNotMade(t *testing.T) {
	s := newState(t, []api.Point{{X: 2, Y: 2}}, []int{3}, api.Mode{})
	expectPlan(t, s, []int{0, 0, 0, 0}, []int{3, 3, 3, 3})
	if _, e := s.Encode(slices.Repeat([]api.Contribution{{Planes: 3, Passes: 1, Lengths: []int{1}}}, 4)); e != api.OK {
		t.Fatalf("Encode = %d", e)
	}
	reader := newState(t, []api.Point{{X: 2, Y: 2}}, []int{3}, api.Mode{})
	moved, movedReader, zero := *s, *reader, pkthead.State{}
	for i, a := range []*pkthead.State{nil, {}, &zero, &moved, &movedReader} {
		if n := a.Blocks(); n != 0 {
			t.Errorf("%d: Blocks is %d", i, n)
		}
		for _, block := range []int{0, 1, -1, math.MaxInt, math.MinInt} {
			if n := a.Passes(block); n != 0 {
				t.Errorf("%d: Passes(%d) is %d", i, block, n)
			}
		}
		expectState(t, a)
		for _, n := range []int{0, 4} {
			if e := a.Plan(make([]int, n), slices.Repeat([]int{1}, n)); e != api.ErrState {
				t.Errorf("%d: Plan = %d", i, e)
			}
			if b, e := a.Encode(make([]api.Contribution, n)); len(b) != 0 || e != api.ErrState {
				t.Errorf("%d: Encode = %x, %d", i, b, e)
			}
		}
		if c := a.Clone(); c != nil {
			t.Errorf("%d: Clone is %v", i, c)
		}
	}
	if !reflect.DeepEqual(zero, pkthead.State{}) {
		t.Error("the zero State has changed")
	}
	if s.Passes(3) != 1 || reader.Blocks() != 4 {
		t.Error("a state changed with a copy of it")
	}
}

// behind returns the elements of a slice, with capacity and other elements behind them.
func behind[T any](l []T, other T) []T {
	long := append(slices.Clone(l), other, other)
	return long[:len(l)]
}

// Rule R6: arguments stay as they are, with what lies behind them, and are not retained; results share no memory with states
func TestMemory(t *testing.T) {
	source := rand.New(rand.NewPCG(26, 11))
	for range 300 {
		grids, planes := drawnSizes(source)
		mode := drawnMode(source)
		m := newModel(slices.Clone(grids), slices.Clone(planes), mode)
		first, planned := drawnPlan(source, m)
		m.plan(first, planned)
		spoilt := func(l []int, want []int) {
			t.Helper()
			if long := l[:len(l)+2]; !slices.Equal(l, want) || long[len(l)] != -7 || long[len(l)+1] != -7 {
				t.Fatalf("%v has become %v", want, long)
			}
			clear(l)
		}
		g, n := behind(grids, api.Point{X: -7, Y: -7}), behind(planes, -7)
		s, reader := newState(t, g, n, mode), newState(t, g, n, mode)
		if long := g[:len(g)+2]; !slices.Equal(g, m.grids) || long[len(g)].X != -7 || long[len(g)+1].Y != -7 {
			t.Fatalf("the grids have become %v", long)
		}
		clear(g)
		spoilt(n, m.planes)
		f, k := behind(first, -7), behind(planned, -7)
		expectPlan(t, s, f, k)
		spoilt(f, first)
		spoilt(k, planned)
		for range 5 {
			want := contributions(source, m)
			l := behind(copied(want), api.Contribution{Planes: -7})
			for i := range l {
				l[i].Lengths = behind(l[i].Lengths, -7)
			}
			b := expectEncode(t, s, m, l)
			if long := l[:len(l)+2]; long[len(l)].Planes != -7 || long[len(l)+1].Planes != -7 || !same(l, want) {
				t.Fatalf("%v has become %v", want, long)
			}
			for i := range l {
				spoilt(l[i].Lengths, want[i].Lengths)
			}
			head := behind(b, 7)
			got, _, e := reader.Decode(head)
			if e != api.OK || !bytes.Equal(head[:len(b)+2], append(b, 7, 7)) {
				t.Fatalf("Decode = %d; %x has become %x", e, b, head)
			}
			clear(b[:cap(b)])
			clear(head)
			if !same(got, decoded(m, want)) {
				t.Fatalf("the contributions change with the header")
			}
			for i := range got {
				clear(got[i].Lengths[:cap(got[i].Lengths)])
			}
			clear(got[:cap(got)])
		}
	}
}

// P26.4, rule R6: the lengths of one result share no memory with each other
func TestLengthsShareNoMemory(t *testing.T) {
	grids, planes, mode := []api.Point{{X: 3, Y: 3}}, []int{9}, api.Mode{Restart: true}
	m := newModel(grids, planes, mode)
	m.plan(make([]int, 9), slices.Repeat([]int{9}, 9))
	l := slices.Repeat([]api.Contribution{{Planes: 9, Passes: 3, Lengths: []int{1, 2, 3}}}, 9)
	got, _, e := newState(t, grids, planes, mode).Decode(pack(m.encode(l, 0)))
	if e != api.OK {
		t.Fatalf("Decode = %d", e)
	}
	for i := range got {
		clear(got[i].Lengths[:cap(got[i].Lengths)])
		if i+1 < len(got) && !same(got[i+1:], l[i+1:]) {
			t.Fatalf("the lengths of block %d share memory with others", i)
		}
	}
	a, b := pkthead.Parts(0, 20, mode), pkthead.Parts(0, 20, mode)
	clear(a[:cap(a)])
	if sum(b) != 20 {
		t.Error("the results of Parts share memory")
	}
}

// Rule R5: slices that are nil or empty
func TestEmptySlices(t *testing.T) {
	for _, s := range []*pkthead.State{newState(t, nil, []int{}, api.Mode{}), newState(t, []api.Point{}, nil, api.Mode{}), newState(t, []api.Point{{}, {}}, []int{0, 60}, api.Mode{})} {
		if l, n, e := s.Clone().Decode([]byte{0x80}); len(l) != 0 || n != 0 || e != api.ErrPacket {
			t.Errorf("Decode of no blocks that contribute = %v, %d, %d", l, n, e)
		}
		if l, n, e := s.Clone().Decode([]byte{0, 9}); len(l) != 0 || n != 1 || e != api.OK {
			t.Errorf("Decode = %v, %d, %d", l, n, e)
		}
		for _, b := range []byte{0x40, 0x01} {
			if l, n, e := s.Clone().Decode([]byte{b}); len(l) != 0 || n != 0 || e != api.ErrSyntax {
				t.Errorf("Decode of a header with padding %x = %v, %d, %d", b, l, n, e)
			}
		}
		if e := s.Plan([]int{}, nil); e != api.OK {
			t.Errorf("Plan = %d", e)
		}
		for _, l := range [][]api.Contribution{nil, {}} {
			if b, e := s.Encode(l); !bytes.Equal(b, []byte{0}) || e != api.OK {
				t.Errorf("Encode = %x, %d", b, e)
			}
		}
		if b, e := s.Encode([]api.Contribution{{}}); len(b) != 0 || e != api.ErrLength {
			t.Errorf("Encode = %x, %d", b, e)
		}
	}
	s := newState(t, []api.Point{{X: 1, Y: 1}}, []int{1}, api.Mode{})
	expectPlan(t, s, []int{16}, []int{0})
	if b, e := s.Encode([]api.Contribution{{Lengths: []int{}}}); !bytes.Equal(b, []byte{0}) || e != api.OK {
		t.Errorf("Encode = %x, %d", b, e)
	}
}

// The examples of the chapter.
func TestExamples(t *testing.T) {
	grids, planes := []api.Point{{X: 1, Y: 1}}, []int{3}
	l := []api.Contribution{{Planes: 2, Passes: 4, Lengths: []int{5}}}
	s := newState(t, grids, planes, api.Mode{})
	expectPlan(t, s, []int{0}, []int{2})
	if b, e := s.Encode(l); !bytes.Equal(b, []byte{210, 10}) || e != api.OK {
		t.Errorf("Encode = %v, %d", b, e)
	}
	reader := newState(t, grids, planes, api.Mode{})
	if got, n, e := reader.Decode([]byte{210, 10, 77}); !same(got, l) || n != 2 || e != api.OK {
		t.Errorf("Decode = %v, %d, %d", got, n, e)
	}
	if reader.Blocks() != 1 || reader.Passes(0) != 4 {
		t.Errorf("the block has had %d passes", reader.Passes(0))
	}

	s, reader = newState(t, grids, planes, api.Mode{}), newState(t, grids, planes, api.Mode{})
	expectPlan(t, s, []int{1}, []int{2})
	if b, e := s.Encode([]api.Contribution{{}}); !bytes.Equal(b, []byte{0}) || e != api.OK {
		t.Errorf("Encode = %v, %d", b, e)
	}
	want := pack("1" + "01" + "01" + "00100" + "0" + "00101")
	if b, e := s.Encode(l); !bytes.Equal(b, want) || e != api.OK {
		t.Errorf("Encode = %v, %d; expected %v", b, e, want)
	}
	if got, n, e := reader.Decode([]byte{0}); !same(got, []api.Contribution{{}}) || n != 1 || e != api.OK {
		t.Errorf("Decode = %v, %d, %d", got, n, e)
	}
	if got, n, e := reader.Decode(want); !same(got, l) || n != 2 || e != api.OK {
		t.Errorf("Decode = %v, %d, %d", got, n, e)
	}

	for _, c := range []struct {
		before, passes int
		m              api.Mode
		want           []int
	}{
		{0, 12, api.Mode{Bypass: true}, []int{10, 2}},
		{11, 3, api.Mode{Bypass: true}, []int{1, 1, 1}},
		{3, 2, api.Mode{Restart: true}, []int{1, 1}},
		{3, 2, api.Mode{}, []int{2}},
		{3, 2, api.Mode{Bypass: true}, []int{2}},
	} {
		if l := pkthead.Parts(c.before, c.passes, c.m); !slices.Equal(l, c.want) {
			t.Errorf("Parts(%d, %d, %v) = %v; expected %v", c.before, c.passes, c.m, l, c.want)
		}
	}
}
