package arith_test

import (
	"bytes"
	"math"
	"math/big"
	"math/rand/v2"
	"slices"
	"testing"

	"wavelet/api"
	"wavelet/arith"
)

// step is a bit in a context.
type step struct{ context, bit int }

// probabilities are those of the definition.
type probabilities []int

func initial(contexts int) probabilities { return slices.Repeat(probabilities{2048}, contexts) }

func (p probabilities) adapt(s step) {
	if s.bit == 0 {
		p[s.context] += (4096 - p[s.context]) / 32
	} else {
		p[s.context] -= p[s.context] / 32
	}
}

// encoder is an encoder that follows the definitions of the chapter.
type encoder struct {
	p     probabilities
	low   *big.Int
	width int
	n     int
	bits  int
}

func newEncoder(contexts int) *encoder {
	return &encoder{p: initial(contexts), low: new(big.Int), width: 1<<32 - 1}
}

func (c *encoder) encode(s step) {
	b := c.width / 4096 * c.p[s.context]
	if s.bit == 0 {
		c.width = b
	} else {
		c.low.Add(c.low, big.NewInt(int64(b)))
		c.width -= b
	}
	for c.width < 1<<24 {
		c.low.Lsh(c.low, 8)
		c.width *= 256
		c.n++
	}
	c.p.adapt(s)
	c.bits++
}

func (c *encoder) size() int {
	if c.bits == 0 {
		return 0
	}
	return c.n + 4
}

// number returns the number in the interval that is divisible by the highest power of 256. Every power is tried, from the highest that low + range may contain on.
func (c *encoder) number() *big.Int {
	end := new(big.Int).Add(c.low, big.NewInt(int64(c.width)))
	for k := c.n + 4; ; k-- {
		power := new(big.Int).Lsh(big.NewInt(1), uint(8*k))
		v, rest := new(big.Int).DivMod(c.low, power, new(big.Int))
		if rest.Sign() > 0 {
			v.Add(v, big.NewInt(1))
		}
		if v.Mul(v, power).Cmp(end) < 0 {
			return v
		}
	}
}

func (c *encoder) codeword() []byte {
	if c.bits == 0 {
		return nil
	}
	b := c.number().FillBytes(make([]byte, c.n+4))
	for len(b) > 0 && b[len(b)-1] == 0 {
		b = b[:len(b)-1]
	}
	return b
}

// terminate returns the codeword and begins a new one.
func (c *encoder) terminate() []byte {
	b := c.codeword()
	c.low, c.width, c.n, c.bits = new(big.Int), 1<<32-1, 0, 0
	return b
}

// decoder is a decoder that follows the definitions of the chapter.
type decoder struct {
	p            probabilities
	word         []byte
	at           int
	value, width int
}

func newDecoder(contexts int) *decoder { return &decoder{p: initial(contexts)} }

func (d *decoder) next() int {
	d.at++
	if d.at > len(d.word) {
		return 0
	}
	return int(d.word[d.at-1])
}

func (d *decoder) start(word []byte) {
	d.word, d.at, d.value, d.width = word, 0, 0, 1<<32-1
	for range 4 {
		d.value = 256*d.value + d.next()
	}
	if d.value == 1<<32-1 {
		d.value--
	}
}

func (d *decoder) decode(context int) int {
	s := step{context, 1}
	b := d.width / 4096 * d.p[context]
	if d.value < b {
		s.bit, d.width = 0, b
	} else {
		d.value, d.width = d.value-b, d.width-b
	}
	for d.width < 1<<24 {
		d.value = 256*d.value + d.next()
		d.width *= 256
	}
	d.p.adapt(s)
	return s.bit
}

// decoded returns the bits that the definition decodes from a word in these contexts.
func decoded(contexts int, word []byte, in []int) []step {
	d := newDecoder(contexts)
	d.start(word)
	l := make([]step, len(in))
	for i, context := range in {
		l[i] = step{context, d.decode(context)}
	}
	return l
}

func madeEncoder(t *testing.T, contexts int) *arith.Encoder {
	t.Helper()
	c, e := arith.NewEncoder(contexts)
	if c == nil || e != api.OK {
		t.Fatalf("NewEncoder(%d) = %v, %d", contexts, c, e)
	}
	return c
}

func madeDecoder(t *testing.T, contexts int) *arith.Decoder {
	t.Helper()
	d, e := arith.NewDecoder(contexts)
	if d == nil || e != api.OK {
		t.Fatalf("NewDecoder(%d) = %v, %d", contexts, d, e)
	}
	return d
}

func started(t *testing.T, contexts int, word []byte) *arith.Decoder {
	t.Helper()
	d := madeDecoder(t, contexts)
	if e := d.Start(word); e != api.OK {
		t.Fatalf("Start = %d", e)
	}
	return d
}

// encode encodes steps in both encoders, and compares the sizes and the probability of each step.
func encode(t *testing.T, c *arith.Encoder, model *encoder, l []step) {
	t.Helper()
	for i, s := range l {
		model.encode(s)
		if e := c.Encode(s.context, s.bit); e != api.OK {
			t.Fatalf("Encode(%d, %d) = %d", s.context, s.bit, e)
		}
		if c.Size() != model.size() || c.Probability(s.context) != model.p[s.context] {
			t.Fatalf("behind %d steps of %v: size %d, probability %d; expected %d and %d", i+1, brief(l), c.Size(), c.Probability(s.context), model.size(), model.p[s.context])
		}
	}
}

// terminate terminates the codewords of both encoders and returns them, if they are equal.
func terminate(t *testing.T, c *arith.Encoder, model *encoder) []byte {
	t.Helper()
	want := model.terminate()
	got := c.Terminate()
	if !bytes.Equal(got, want) {
		t.Fatalf("the codeword is % x; expected % x", brief(got), brief(want))
	}
	expectNew(t, c)
	return got
}

// expectNew checks that the codeword of an encoder has no bits.
func expectNew(t *testing.T, c *arith.Encoder) {
	t.Helper()
	if n := c.Size(); n != 0 {
		t.Fatalf("the size is %d at the beginning of a codeword", n)
	}
}

func expectProbabilities(t *testing.T, c *arith.Encoder, want probabilities) {
	t.Helper()
	for context, p := range want {
		if got := c.Probability(context); got != p {
			t.Fatalf("the context %d has the probability %d; expected %d", context, got, p)
		}
	}
}

// expectSteps decodes steps.
func expectSteps(t *testing.T, d *arith.Decoder, l []step) {
	t.Helper()
	for i, s := range l {
		if bit, e := d.Decode(s.context); bit != s.bit || e != api.OK {
			t.Fatalf("the step %d of %v was decoded as %d, %d", i, brief(l), bit, e)
		}
	}
}

// brief returns the first elements of a long slice, for a message.
func brief[T any](l []T) []T { return l[:min(len(l), 40)] }

// word encodes steps with a new encoder, and returns the codeword and the size behind each number of steps.
func word(t *testing.T, contexts int, l []step) (b []byte, sizes []int) {
	t.Helper()
	c := madeEncoder(t, contexts)
	sizes = append(sizes, c.Size())
	for _, s := range l {
		if e := c.Encode(s.context, s.bit); e != api.OK {
			t.Fatalf("Encode(%d, %d) = %d", s.context, s.bit, e)
		}
		sizes = append(sizes, c.Size())
	}
	return c.Terminate(), sizes
}

// matches reports whether a decoder decodes the steps from a word.
func matches(t *testing.T, contexts int, b []byte, l []step) bool {
	t.Helper()
	d := started(t, contexts, b)
	for _, s := range l {
		bit, e := d.Decode(s.context)
		if e != api.OK {
			t.Fatalf("Decode(%d) = %d", s.context, e)
		}
		if bit != s.bit {
			return false
		}
	}
	return true
}

// sequence is a number of contexts and steps in them.
type sequence struct {
	contexts int
	steps    []step
}

// shortSequences calls f for all sequences of at most n steps in few contexts.
func shortSequences(n int, f func(s sequence)) {
	for contexts := 1; contexts <= 3; contexts++ {
		for length := range n + 1 {
			for v := range 1 << length {
				l := make([]step, length)
				for i := range l {
					l[i] = step{(i*i + v) % contexts, v >> i % 2}
				}
				f(sequence{contexts, l})
			}
		}
	}
}

// even returns random steps.
func even(source *rand.Rand, contexts, n int) []step {
	l := make([]step, n)
	for i := range l {
		l[i] = step{source.IntN(contexts), source.IntN(2)}
	}
	return l
}

// uneven returns random steps, where one of the bits is rare in each context.
func uneven(source *rand.Rand, contexts, n int) []step {
	l := make([]step, n)
	for i := range l {
		context := source.IntN(contexts)
		bit := context % 2
		if source.IntN(40) == 0 {
			bit = 1 - bit
		}
		l[i] = step{context, bit}
	}
	return l
}

// likely returns the steps that are decoded from given bytes: low comes close to the number that they are.
func likely(source *rand.Rand, contexts, n int, b []byte) []step {
	in := make([]int, n)
	for i := range in {
		in[i] = source.IntN(contexts)
	}
	return decoded(contexts, b, in)
}

// carries returns the bytes of numbers at which a carry passes through many bytes.
func carries(n int) [][]byte {
	return [][]byte{
		{},
		{0x80},
		{0, 0, 0, 0, 1},
		{0x12, 0x34, 0x56, 0x78, 0x9B},
		bytes.Repeat([]byte{0xFF}, n),
		append(bytes.Repeat([]byte{0xFF}, n), 0xFE),
		append([]byte{0x7F}, bytes.Repeat([]byte{0xFF}, n)...),
		append([]byte{0x7F}, append(bytes.Repeat([]byte{0xFF}, n), 0xFE, 0x12, 0x34)...),
		append([]byte{0x80}, append(make([]byte, n), 1)...),
		append([]byte{0xFF, 0xFF, 0xFF, 0xFE}, bytes.Repeat([]byte{0xFF}, n)...),
		append([]byte{0xAB, 0xFF, 0x00}, bytes.Repeat([]byte{0xFF, 0xFF, 0xFF, 0xFF, 0}, n/5)...),
	}
}

// longSequences calls f for many sequences of up to some thousand steps, with the least and the greatest number of contexts among them.
func longSequences(f func(s sequence)) {
	source := rand.New(rand.NewPCG(11, 1))
	for _, contexts := range []int{1, 2, 3, 19, 63, 64} {
		for _, n := range []int{1, 7, 30, 200, 1500} {
			f(sequence{contexts, even(source, contexts, n)})
			f(sequence{contexts, uneven(source, contexts, n)})
			f(sequence{contexts, slices.Repeat([]step{{contexts - 1, 0}}, n)})
			f(sequence{contexts, slices.Repeat([]step{{contexts - 1, 1}}, n)})
			for _, b := range carries(n / 6) {
				l := likely(source, contexts, n, b)
				f(sequence{contexts, l})
				f(sequence{contexts, append(l[:n:n], even(source, contexts, n)...)})
				f(sequence{contexts, append(l[:n:n], slices.Repeat([]step{{0, 1}}, n)...)})
			}
		}
	}
}

// badContexts are numbers of contexts that do not exist if there are so many.
func badContexts(contexts int) []int {
	return []int{math.MinInt, math.MinInt32, -64, -1, contexts, contexts + 1, contexts + 64, math.MaxInt32, 1 << 32, math.MaxInt}
}

func noBits() []int {
	return []int{math.MinInt, -256, -2, -1, 2, 3, 256, 257, 1 << 32, 1<<32 + 1, math.MaxInt}
}

// P11.1
func TestAdaptFollowsTheDefinition(t *testing.T) {
	for p := range 4097 {
		if q := arith.Adapt(p, 0); q != p+(4096-p)>>5 {
			t.Errorf("Adapt(%d, 0) = %d", p, q)
		}
		if q := arith.Adapt(p, 1); q != p-p>>5 {
			t.Errorf("Adapt(%d, 1) = %d", p, q)
		}
	}
}

// P11.1
func TestAdaptOutsideTheRanges(t *testing.T) {
	for _, p := range []int{math.MinInt, -4096, -33, -32, -1, 4097, 4128, 1 << 32, 1<<32 + 2048, math.MaxInt} {
		for _, bit := range append(noBits(), 0, 1) {
			if q := arith.Adapt(p, bit); q != 0 {
				t.Errorf("Adapt(%d, %d) = %d", p, bit, q)
			}
		}
	}
	for _, p := range []int{0, 1, 31, 2048, 4065, 4095, 4096} {
		for _, bit := range noBits() {
			if q := arith.Adapt(p, bit); q != 0 {
				t.Errorf("Adapt(%d, %d) = %d", p, bit, q)
			}
		}
	}
}

// P11.1
func TestProbabilitiesStayInTheirRange(t *testing.T) {
	low, high := 2048, 2048
	for range 1000 {
		low, high = arith.Adapt(low, 1), arith.Adapt(high, 0)
	}
	if low != 31 || high != 4065 {
		t.Errorf("the probabilities tend to %d and %d", low, high)
	}
	for p := 31; p <= 4065; p++ {
		for bit := range 2 {
			if q := arith.Adapt(p, bit); q < 31 || q > 4065 {
				t.Errorf("Adapt(%d, %d) = %d", p, bit, q)
			}
		}
	}
}

// P11.2, P11.4
func TestNumbersOfContexts(t *testing.T) {
	for _, contexts := range []int{math.MinInt, math.MinInt32, -64, -1, 0, 65, 66, 128, 1 << 32, 1<<32 + 1, math.MaxInt} {
		if c, e := arith.NewEncoder(contexts); c != nil || e != api.ErrRange {
			t.Errorf("NewEncoder(%d) = %v, %d", contexts, c, e)
		}
		if d, e := arith.NewDecoder(contexts); d != nil || e != api.ErrRange {
			t.Errorf("NewDecoder(%d) = %v, %d", contexts, d, e)
		}
	}
	for contexts := 1; contexts <= api.MaxContexts; contexts++ {
		c := madeEncoder(t, contexts)
		expectNew(t, c)
		expectProbabilities(t, c, initial(contexts))
		d := started(t, contexts, nil)
		for context := range contexts {
			if e := c.Encode(context, 0); e != api.OK {
				t.Errorf("Encode(%d, 0) in %d contexts = %d", context, contexts, e)
			}
			if bit, e := d.Decode(context); bit != 0 || e != api.OK {
				t.Errorf("Decode(%d) in %d contexts = %d, %d", context, contexts, bit, e)
			}
		}
	}
}

// P11.2, P11.3
func TestEncodersFollowTheDefinition(t *testing.T) {
	check := func(s sequence) {
		c, model := madeEncoder(t, s.contexts), newEncoder(s.contexts)
		encode(t, c, model, s.steps)
		terminate(t, c, model)
		expectProbabilities(t, c, model.p)
	}
	shortSequences(11, check)
	longSequences(check)
}

// P11.3: the probabilities stay as they are, and low, range and n are as at first.
func TestFurtherCodewords(t *testing.T) {
	source := rand.New(rand.NewPCG(11, 2))
	for _, contexts := range []int{1, 2, 19, 64} {
		c, model := madeEncoder(t, contexts), newEncoder(contexts)
		terminate(t, c, model)
		for i := range 60 {
			n := source.IntN(8 * (i + 1))
			l := uneven(source, contexts, n)
			if i%3 == 0 {
				l = likely(source, contexts, n, []byte{0x7F, 0xFF, 0xFF, 0xFF, 0xFF, 0xFF, 0xFF})
			}
			encode(t, c, model, l)
			terminate(t, c, model)
			expectProbabilities(t, c, model.p)
			if i%4 == 0 {
				terminate(t, c, model)
			}
		}
	}
}

// P11.3, rule R6
func TestCodewordsShareNoMemory(t *testing.T) {
	source := rand.New(rand.NewPCG(11, 3))
	for n := range 300 {
		l := even(source, 2, n)
		c, model := madeEncoder(t, 2), newEncoder(2)
		encode(t, c, model, l)
		first := terminate(t, c, model)
		kept := bytes.Clone(first)
		for i := range first {
			first[i] ^= 0x55
		}
		_ = append(first, 0x55, 0x55, 0x55, 0x55, 0x55)
		encode(t, c, model, l)
		_ = append(first[:len(first):cap(first)], 0xAA, 0xAA, 0xAA)
		second := terminate(t, c, model)
		for i := range second {
			second[i] = 0
		}
		for i := range first {
			if first[i] != kept[i]^0x55 {
				t.Fatalf("a codeword of %d steps changed behind it", n)
			}
		}
	}
}

// P11.2: an encoder is unchanged by an error.
func TestErrorsOfEncode(t *testing.T) {
	source := rand.New(rand.NewPCG(11, 4))
	for _, contexts := range []int{1, 2, 63, 64} {
		c, model := madeEncoder(t, contexts), newEncoder(contexts)
		expectErrorsOfEncode(t, c, contexts)
		terminate(t, c, model)
		for range 20 {
			encode(t, c, model, even(source, contexts, source.IntN(12)))
			size := model.size()
			expectErrorsOfEncode(t, c, contexts)
			if c.Size() != size {
				t.Fatalf("the size %d became %d", size, c.Size())
			}
			expectProbabilities(t, c, model.p)
			if source.IntN(3) == 0 {
				terminate(t, c, model)
			}
		}
		terminate(t, c, model)
	}
}

func expectErrorsOfEncode(t *testing.T, c *arith.Encoder, contexts int) {
	t.Helper()
	for _, context := range badContexts(contexts) {
		for _, bit := range append(noBits(), 0, 1) {
			if e := c.Encode(context, bit); e != api.ErrRange {
				t.Errorf("Encode(%d, %d) = %d; expected ErrRange", context, bit, e)
			}
		}
		if p := c.Probability(context); p != 0 {
			t.Errorf("Probability(%d) = %d", context, p)
		}
	}
	for _, context := range []int{0, contexts - 1} {
		for _, bit := range noBits() {
			if e := c.Encode(context, bit); e != api.ErrRange {
				t.Errorf("Encode(%d, %d) = %d; expected ErrRange", context, bit, e)
			}
		}
	}
}

// P11.2, P11.4: within a codeword, Reset sets the probabilities only.
func TestResetsWithinCodewords(t *testing.T) {
	source := rand.New(rand.NewPCG(11, 5))
	for _, contexts := range []int{1, 3, 64} {
		for range 40 {
			c, model := madeEncoder(t, contexts), newEncoder(contexts)
			var parts [][]step
			for range 5 {
				l := uneven(source, contexts, source.IntN(300))
				parts = append(parts, l)
				encode(t, c, model, l)
				size := model.size()
				c.Reset()
				model.p = initial(contexts)
				expectProbabilities(t, c, model.p)
				if c.Size() != size {
					t.Fatalf("Reset made the size %d from %d", c.Size(), size)
				}
			}
			d := started(t, contexts, terminate(t, c, model))
			for _, l := range parts {
				expectSteps(t, d, l)
				d.Reset()
			}
		}
	}
}

// P11.8
func TestResetsBetweenCodewords(t *testing.T) {
	source := rand.New(rand.NewPCG(11, 6))
	for _, contexts := range []int{1, 2, 64} {
		used := madeEncoder(t, contexts)
		d := madeDecoder(t, contexts)
		for range 100 {
			l := uneven(source, contexts, source.IntN(200))
			want, sizes := word(t, contexts, l)
			for i, s := range l {
				used.Encode(s.context, s.bit)
				if used.Size() != sizes[i+1] {
					t.Fatalf("behind %d steps the size is %d; expected %d", i+1, used.Size(), sizes[i+1])
				}
			}
			if got := used.Terminate(); !bytes.Equal(got, want) {
				t.Fatalf("behind Reset the codeword is % x; expected % x", got, want)
			}
			used.Reset()
			expectProbabilities(t, used, initial(contexts))
			d.Reset()
			if e := d.Start(want); e != api.OK {
				t.Fatalf("Start = %d", e)
			}
			expectSteps(t, d, l)
		}
	}
}

// words calls f for all words of at most two bytes, and for many longer ones.
func words(f func(b []byte)) {
	f(nil)
	for first := range 256 {
		f([]byte{byte(first)})
		for second := range 256 {
			f([]byte{byte(first), byte(second)})
		}
	}
	for i := range 256 {
		last := byte(i)
		f([]byte{0xFF, 0xFF, 0xFF, last})
		f([]byte{0xFF, 0xFF, 0xFF, last, 0xFF, 0xFF, 0xFF, 0xFF})
		f([]byte{0xFF, 0xFF, 0xFF, 0xFF, last})
		f([]byte{0x7F, 0xFF, 0xF7, last})
		f([]byte{0x7F, 0xFF, 0xF8, last})
		f([]byte{0, 0, 0, 0, 0, last})
	}
	source := rand.New(rand.NewPCG(11, 7))
	for n := range 200 {
		b := make([]byte, n)
		for i := range b {
			b[i] = byte(source.IntN(256))
		}
		f(b)
		f(bytes.Repeat([]byte{0xFF}, n))
	}
}

// P11.4: every word can be decoded, and zero bytes follow it.
func TestDecodersFollowTheDefinition(t *testing.T) {
	source := rand.New(rand.NewPCG(11, 8))
	words(func(b []byte) {
		for _, contexts := range []int{1, 2, 64} {
			in := make([]int, 20+9*len(b))
			for i := range in {
				in[i] = source.IntN(contexts)
			}
			expectSteps(t, started(t, contexts, b), decoded(contexts, b, in))
		}
	})
}

// P11.4: Start may begin a codeword at any time, and the probabilities stay as they are.
func TestStartWithinCodewords(t *testing.T) {
	source := rand.New(rand.NewPCG(11, 9))
	for _, contexts := range []int{1, 2, 64} {
		d, model := madeDecoder(t, contexts), newDecoder(contexts)
		words(func(b []byte) {
			if e := d.Start(b); e != api.OK {
				t.Fatalf("Start = %d", e)
			}
			model.start(b)
			for range source.IntN(12 + 3*len(b)) {
				context := source.IntN(contexts)
				want := model.decode(context)
				if bit, e := d.Decode(context); bit != want || e != api.OK {
					t.Fatalf("Decode of % x = %d, %d; expected %d", b, bit, e, want)
				}
			}
			if source.IntN(5) == 0 {
				d.Reset()
				model.p = initial(contexts)
			}
		})
	}
}

// P11.4, rule R6
func TestStartCopiesTheWord(t *testing.T) {
	source := rand.New(rand.NewPCG(11, 10))
	l := even(source, 3, 400)
	b, _ := word(t, 3, l)
	memory := slices.Concat(b, []byte{1, 2, 3, 4, 5})
	d := started(t, 3, memory[:len(b)])
	other := started(t, 3, memory[:len(b)])
	expectSteps(t, other, l)
	expectSteps(t, d, l[:100])
	if !bytes.Equal(memory, slices.Concat(b, []byte{1, 2, 3, 4, 5})) {
		t.Errorf("the word became % x", memory)
	}
	for i := range memory {
		memory[i] ^= 0xFF
	}
	expectSteps(t, d, l[100:])
}

// P11.4: the bytes behind a word are zero, also those behind its length in the same memory.
func TestZeroBytesFollowTheWord(t *testing.T) {
	memory := []byte{0x80, 0xFF, 0xFF, 0xFF, 0xFF, 0xFF}
	in := make([]int, 60)
	expectSteps(t, started(t, 1, memory[:1]), decoded(1, []byte{0x80, 0, 0, 0, 0, 0, 0, 0, 0, 0}, in))
	expectSteps(t, started(t, 1, memory[:0]), decoded(1, nil, in))
}

// P11.4: the error of the state precedes that of the context, and a decoder is unchanged by an error.
func TestErrorsOfDecode(t *testing.T) {
	source := rand.New(rand.NewPCG(11, 11))
	for _, contexts := range []int{1, 2, 63, 64} {
		d := madeDecoder(t, contexts)
		for range 2 {
			for _, context := range append(badContexts(contexts), 0, contexts-1) {
				if bit, e := d.Decode(context); bit != 0 || e != api.ErrState {
					t.Errorf("Decode(%d) before Start = %d, %d; expected ErrState", context, bit, e)
				}
			}
			d.Reset()
		}
		l := even(source, contexts, 300)
		b, _ := word(t, contexts, l)
		if e := d.Start(b); e != api.OK {
			t.Fatalf("Start = %d", e)
		}
		for _, s := range l {
			for _, context := range badContexts(contexts) {
				if bit, e := d.Decode(context); bit != 0 || e != api.ErrRange {
					t.Fatalf("Decode(%d) in %d contexts = %d, %d; expected ErrRange", context, contexts, bit, e)
				}
			}
			expectSteps(t, d, []step{s})
		}
	}
}

// P11.5
func TestDecodersRestoreWhatEncodersEncoded(t *testing.T) {
	check := func(s sequence) {
		b, _ := word(t, s.contexts, s.steps)
		expectSteps(t, started(t, s.contexts, b), s.steps)
	}
	shortSequences(13, check)
	longSequences(check)
}

// P11.5: the probabilities of a decoder follow those of the encoder from codeword to codeword.
func TestCodewordsAreDecodedOneByOne(t *testing.T) {
	source := rand.New(rand.NewPCG(11, 12))
	for _, contexts := range []int{1, 2, 19, 64} {
		c, d := madeEncoder(t, contexts), madeDecoder(t, contexts)
		for range 300 {
			l := uneven(source, contexts, source.IntN(100))
			for _, s := range l {
				c.Encode(s.context, s.bit)
			}
			if e := d.Start(c.Terminate()); e != api.OK {
				t.Fatalf("Start = %d", e)
			}
			expectSteps(t, d, l)
		}
	}
}

// filled returns a word that has other bytes from some place on.
func filled(b []byte, size int, more []byte) []byte {
	if len(b) <= size {
		return b
	}
	return slices.Concat(b[:size], more)
}

// P11.6: behind every cut, with other bytes in place of those that were cut off.
func TestSizesSuffice(t *testing.T) {
	source := rand.New(rand.NewPCG(11, 13))
	check := func(s sequence) {
		b, sizes := word(t, s.contexts, s.steps)
		every := 1 + len(s.steps)/60
		for n := 0; n <= len(s.steps); n += 1 + source.IntN(every) {
			other := []byte{byte(source.IntN(256)), byte(source.IntN(256)), 0x55}
			for _, more := range [][]byte{nil, {0}, {0xFF, 0xFF, 0xFF, 0xFF, 0xFF, 0xFF}, other} {
				if cut := filled(b, sizes[n], more); !matches(t, s.contexts, cut, s.steps[:n]) {
					t.Fatalf("%d steps of %v are not decoded from % x, of which the first %d bytes suffice", n, brief(s.steps), brief(cut), sizes[n])
				}
			}
		}
	}
	shortSequences(8, check)
	longSequences(check)
}

// P11.6: the sizes are those of the definition also at the ends of a long codeword, and never decrease.
func TestSizesGrow(t *testing.T) {
	longSequences(func(s sequence) {
		_, sizes := word(t, s.contexts, s.steps)
		if sizes[0] != 0 || sizes[1] != 4 || !slices.IsSorted(sizes) {
			t.Fatalf("the sizes are %v", brief(sizes))
		}
	})
}

// P11.7
func TestNoShorterCodewords(t *testing.T) {
	check := func(s sequence) {
		b, _ := word(t, s.contexts, s.steps)
		if len(b) > 0 && b[len(b)-1] == 0 {
			t.Fatalf("the codeword % x of %v ends with a zero byte", b, s.steps)
		}
		if len(b) > 2 {
			return
		}
		for n := range len(b) {
			for v := range 1 << (8 * n) {
				short := []byte{byte(v)}[:n]
				if matches(t, s.contexts, short, s.steps) {
					t.Fatalf("%v is decoded from % x; its codeword is % x", s.steps, short, b)
				}
			}
		}
	}
	shortSequences(8, check)
	longSequences(func(s sequence) {
		check(sequence{s.contexts, brief(s.steps)[:min(len(s.steps), 9)]})
	})
}

// P11.7: a word that is decoded to these steps is not shorter than their codeword.
func TestWordsAreNotShorterThanCodewords(t *testing.T) {
	source := rand.New(rand.NewPCG(11, 14))
	words(func(b []byte) {
		contexts := 1 + source.IntN(64)
		l := likely(source, contexts, source.IntN(9*len(b)+9), b)
		if w, _ := word(t, contexts, l); len(w) > len(b) {
			t.Fatalf("%v is decoded from % x; its codeword is % x", brief(l), brief(b), brief(w))
		}
	})
}

// P11.7: of a codeword, no part and no word next to it suffices.
func TestCodewordsThatAreCutOff(t *testing.T) {
	longSequences(func(s sequence) {
		b, _ := word(t, s.contexts, s.steps)
		if len(b) == 0 {
			return
		}
		short := bytes.Clone(b[:len(b)-1])
		if matches(t, s.contexts, short, s.steps) {
			t.Fatalf("%v is decoded without the last byte of % x", brief(s.steps), brief(b))
		}
		if len(short) == 0 {
			return
		}
		short[len(short)-1]++
		if matches(t, s.contexts, short, s.steps) {
			t.Fatalf("%v is decoded from % x, which is shorter than % x", brief(s.steps), brief(short), brief(b))
		}
	})
}

// P11.3, P11.5: a carry runs through more bytes than any number of the machine has, and more than such a number might count.
func TestCarriesThroughLongCodewords(t *testing.T) {
	for _, n := range []int{1, 3, 4, 5, 7, 8, 9, 16, 255, 256, 257, 70000} {
		ones := append([]byte{0x7F}, bytes.Repeat([]byte{0xFF}, n)...)
		in := make([]int, 9*n)
		for i := range in {
			in[i] = i % 2
		}
		for _, last := range [][]byte{ones, append(ones[:n+1:n+1], 0xFE), {0x80}} {
			l := decoded(2, last, in)
			b, _ := word(t, 2, l)
			if len(b) > len(last) {
				t.Errorf("a codeword of %d bytes for %d", len(b), len(last))
			}
			expectSteps(t, started(t, 2, b), l)
		}
		l := decoded(2, []byte{0x80}, in)
		if b, _ := word(t, 2, l); !bytes.Equal(b, []byte{0x80}) {
			t.Errorf("with a carry through %d bytes the codeword has %d bytes, % x", n, len(b), brief(b))
		}
	}
}

// P11.3: codewords of some thousand bytes, whose numbers the definition determines.
func TestLongCodewords(t *testing.T) {
	source := rand.New(rand.NewPCG(11, 15))
	for _, l := range [][]step{
		even(source, 64, 30000),
		uneven(source, 64, 60000),
		likely(source, 2, 30000, carries(4000)[6]),
		likely(source, 2, 30000, carries(0)[1]),
	} {
		c, model := madeEncoder(t, 64), newEncoder(64)
		encode(t, c, model, l)
		terminate(t, c, model)
	}
}

// Rule R7
func TestEncodersThatNewEncoderDidNotReturn(t *testing.T) {
	l := []step{{0, 1}, {1, 0}, {0, 1}}
	original, model := madeEncoder(t, 2), newEncoder(2)
	encode(t, original, model, l)
	duplicate := *original
	for name, c := range map[string]*arith.Encoder{"nil": nil, "zero": {}, "copied": &duplicate} {
		for _, context := range append(badContexts(2), 0, 1) {
			for _, bit := range append(noBits(), 0, 1) {
				if e := c.Encode(context, bit); e != api.ErrState {
					t.Errorf("%s: Encode(%d, %d) = %d", name, context, bit, e)
				}
			}
			if p := c.Probability(context); p != 0 {
				t.Errorf("%s: Probability(%d) = %d", name, context, p)
			}
		}
		c.Reset()
		if n, b := c.Size(), c.Terminate(); n != 0 || len(b) != 0 {
			t.Errorf("%s: size %d, codeword % x", name, n, b)
		}
	}
	expectProbabilities(t, original, model.p)
	encode(t, original, model, l)
	terminate(t, original, model)
}

// Rule R7
func TestDecodersThatNewDecoderDidNotReturn(t *testing.T) {
	l := slices.Repeat([]step{{0, 1}, {1, 0}, {0, 1}}, 20)
	b, _ := word(t, 2, l)
	original := started(t, 2, b)
	expectSteps(t, original, l[:30])
	duplicate := *original
	for name, d := range map[string]*arith.Decoder{"nil": nil, "zero": {}, "copied": &duplicate} {
		for range 2 {
			for _, context := range append(badContexts(2), 0, 1) {
				if bit, e := d.Decode(context); bit != 0 || e != api.ErrState {
					t.Errorf("%s: Decode(%d) = %d, %d", name, context, bit, e)
				}
			}
			d.Reset()
			if e := d.Start(b); e != api.ErrState {
				t.Errorf("%s: Start = %d", name, e)
			}
		}
	}
	expectSteps(t, original, l[30:])
}

// The example 1 of the chapter.
func TestExamplesOfAdapt(t *testing.T) {
	for _, c := range [][3]int{{2048, 0, 2112}, {2048, 1, 1984}, {4065, 0, 4065}, {31, 1, 31}} {
		if p := arith.Adapt(c[0], c[1]); p != c[2] {
			t.Errorf("Adapt(%d, %d) = %d; expected %d", c[0], c[1], p, c[2])
		}
	}
}

// The examples 2 to 4 of the chapter.
func TestExamplesOfCoding(t *testing.T) {
	for bit, want := range [][]byte{{}, {0x80}} {
		c := madeEncoder(t, 1)
		if e := c.Encode(0, bit); e != api.OK || c.Size() != 4 {
			t.Errorf("Encode(0, %d) = %d, and the size is %d", bit, e, c.Size())
		}
		if b := c.Terminate(); !bytes.Equal(b, want) {
			t.Errorf("the bit %d has the codeword % x", bit, b)
		}
		if got, e := started(t, 1, want).Decode(0); got != bit || e != api.OK {
			t.Errorf("the word % x is decoded as %d, %d", want, got, e)
		}
	}
}
