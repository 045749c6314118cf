package packet_test

import (
	"bytes"
	"fmt"
	"math"
	"math/rand/v2"
	"reflect"
	"slices"
	"testing"

	"wavelet/api"
	"wavelet/packet"
	"wavelet/pkthead"
)

// extremes are numbers at the ends of the integers and near the limits.
var extremes = []int{math.MinInt, math.MinInt + 1, math.MinInt + 11, -1 << 32, -65536, -11, -2, -1, 0, 1, 2, 10, 11, 12, 255, 256, 65534, 65535, 65536, 65537, 1<<32 - 1, 1 << 32, 1<<32 + 1, 1 << 62, math.MaxInt - 12, math.MaxInt - 11, math.MaxInt - 10, math.MaxInt - 1, math.MaxInt}

// identities are any ones: they are not looked at.
var identities = []api.PacketID{{}, {Comp: 1, Res: 2, Precinct: 3, Layer: 4}, {Comp: -1, Res: math.MaxInt, Precinct: math.MinInt, Layer: 99}}

// crc follows the definition of the CRC-16.
func crc(b []byte) int {
	register := 0xffff
	for _, v := range b {
		for i := 7; i >= 0; i-- {
			f := register>>15 ^ int(v)>>i&1
			register = register << 1 & 0xffff
			if f == 1 {
				register ^= 0x1021
			}
		}
	}
	return register
}

// number returns the digits of a number.
func number(v, n int) []byte {
	var b []byte
	for i := n - 1; i >= 0; i-- {
		b = append(b, byte(v>>(8*i)))
	}
	return b
}

// forged returns a synchronization marker with any numbers, whose check byte is right.
func forged(seq, size, crc int) []byte {
	b := slices.Concat([]byte{0xff, 0xb3}, number(seq, 2), number(size, 4), number(crc, 2))
	sum := 0
	for _, v := range b {
		sum += int(v)
	}
	return append(b, byte(sum%256))
}

// framed returns the rest of a packet behind its synchronization marker.
func framed(rest []byte, seq int) []byte {
	return append(forged(seq, len(rest), crc(rest)), rest...)
}

// encoding follows the definition of the encoding of a packet.
func encoding(head, body []byte, sync, fence bool, seq int) []byte {
	rest := slices.Clone(head)
	if fence {
		rest = append(rest, 0xff, 0xb4)
	}
	rest = append(rest, body...)
	if sync {
		return framed(rest, seq)
	}
	return rest
}

// value returns a number of bytes.
func value(b []byte) int {
	v := 0
	for _, d := range b {
		v = 256*v + int(d)
	}
	return v
}

// begin follows the first four errors of P27.3, and returns the three numbers of the marker.
func begin(b []byte, at int) (seq, size, sum int, e api.Errno) {
	if at < 0 || at > len(b) {
		return 0, 0, 0, api.ErrRange
	}
	b = b[at:]
	if len(b) < 11 {
		return 0, 0, 0, api.ErrTruncated
	}
	if b[0] != 0xff || b[1] != 0xb3 {
		return 0, 0, 0, api.ErrMarker
	}
	seq, size, sum = value(b[2:4]), value(b[4:8]), value(b[8:10])
	if !bytes.Equal(forged(seq, size, sum), b[:11]) {
		return 0, 0, 0, api.ErrChecksum
	}
	return seq, size, sum, api.OK
}

// protected follows the last two errors of P27.3.
func protected(b []byte, at, size, sum int) (api.Span, api.Errno) {
	if len(b)-at-11 < size {
		return api.Span{}, api.ErrTruncated
	}
	if crc(b[at+11:at+11+size]) != sum {
		return api.Span{}, api.ErrChecksum
	}
	return api.Span{From: at + 11, To: at + 11 + size}, api.OK
}

// frameModel follows P27.3.
func frameModel(b []byte, at int) (int, api.Span, api.Errno) {
	seq, size, sum, e := begin(b, at)
	if e != api.OK {
		return 0, api.Span{}, e
	}
	s, e := protected(b, at, size, sum)
	if e != api.OK {
		return 0, s, e
	}
	return seq, s, api.OK
}

// result is what Read returns, and why.
type result struct {
	k    api.Packet
	l    []api.Contribution
	next int
	e    api.Errno
	why  string
}

// readModel follows P27.4, and advances the state if there is no error.
func readModel(b []byte, at int, s *pkthead.State, id api.PacketID, sync, fence bool, seq int) result {
	if s.Clone() == nil {
		return result{e: api.ErrState, why: "state"}
	}
	if at < 0 || at > len(b) || seq < 0 || seq > 65535 {
		return result{e: api.ErrRange, why: "range"}
	}
	from, end := at, len(b)
	if sync {
		got, size, sum, e := begin(b, at)
		if e != api.OK {
			return result{e: e, why: "marker"}
		}
		if got != seq {
			return result{e: api.ErrPacket, why: "sequence number"}
		}
		span, e := protected(b, at, size, sum)
		if e != api.OK {
			return result{e: e, why: "rest"}
		}
		from, end = span.From, span.To
	}
	next := s.Clone()
	l, n, e := next.Decode(b[from:end])
	if e != api.OK {
		return result{e: e, why: "header"}
	}
	head := from + n
	body := head
	if fence {
		if end-head < 2 {
			return result{e: api.ErrTruncated, why: "end before the fence"}
		}
		if b[head] != 0xff || b[head+1] != 0xb4 {
			return result{e: api.ErrMarker, why: "fence"}
		}
		body += 2
	}
	stop := body + total(l)
	if stop > end {
		return result{e: api.ErrTruncated, why: "body"}
	}
	if sync && stop < end {
		return result{e: api.ErrLength, why: "bytes are left"}
	}
	s.Decode(b[from:end])
	return result{api.Packet{ID: id, Head: b[from:head], Body: b[body:stop]}, l, stop, api.OK, ""}
}

func total(l []api.Contribution) int {
	n := 0
	for _, c := range l {
		for _, v := range c.Lengths {
			n += v
		}
	}
	return n
}

// same reports whether contributions are equal, where nil and empty slices are.
func same(a, b []api.Contribution) bool {
	return slices.EqualFunc(a, b, func(c, d api.Contribution) bool {
		return c.Planes == d.Planes && c.Passes == d.Passes && slices.Equal(c.Lengths, d.Lengths)
	})
}

func samePacket(a, b api.Packet) bool {
	return a.ID == b.ID && bytes.Equal(a.Head, b.Head) && bytes.Equal(a.Body, b.Body)
}

// brief returns bytes as a text that is not too long.
func brief(b []byte) string {
	if len(b) > 60 {
		return fmt.Sprintf("%x.. (%d bytes)", b[:60], len(b))
	}
	return fmt.Sprintf("%x", b)
}

// expectFrame checks Frame against the definition.
func expectFrame(t *testing.T, b []byte, at int) api.Errno {
	t.Helper()
	wantSeq, want, wantError := frameModel(b, at)
	if seq, s, e := packet.Frame(b, at); seq != wantSeq || s != want || e != wantError {
		t.Fatalf("Frame(%s, %d) = %d, %v, %d; expected %d, %v, %d", brief(b), at, seq, s, e, wantSeq, want, wantError)
	}
	return wantError
}

// expectRead checks Read against the definition, and that it changes the state as it should. The state itself stays as it is. It returns why there is an error.
func expectRead(t *testing.T, b []byte, at int, s *pkthead.State, sync, fence bool, seq int) string {
	t.Helper()
	id := identities[(len(b)+at&7)%len(identities)]
	tried, expected := s, s
	if c := s.Clone(); c != nil {
		tried, expected = c, s.Clone()
	}
	want := readModel(b, at, expected, id, sync, fence, seq)
	k, l, next, e := packet.Read(b, at, tried, id, sync, fence, seq)
	if !samePacket(k, want.k) || !same(l, want.l) || next != want.next || e != want.e {
		t.Fatalf("Read(%s, %d, sync %v, fence %v, %d) = %v, %v, %d, %d; expected %v (%s)", brief(b), at, sync, fence, seq, k, l, next, e, want, want.why)
	}
	if !reflect.DeepEqual(tried, expected) {
		t.Fatalf("Read(%s, %d, sync %v, fence %v, %d) = %d: the state is not what it should be", brief(b), at, sync, fence, seq, e)
	}
	return want.why
}

// expectResync checks Resync against the definition.
func expectResync(t *testing.T, b []byte, at, low, high int) bool {
	t.Helper()
	want, wantSeq, found := 0, 0, false
	for i := at; at >= 0 && i <= len(b) && !found; i++ {
		if seq, _, e := frameModel(b, i); e == api.OK && low <= seq && seq <= high {
			want, wantSeq, found = i, seq, true
		}
	}
	if next, seq, ok := packet.Resync(b, at, low, high); next != want || seq != wantSeq || ok != found {
		t.Fatalf("Resync(%s, %d, %d, %d) = %d, %d, %v; expected %d, %d, %v", brief(b), at, low, high, next, seq, ok, want, wantSeq, found)
	}
	return found
}

// junk returns any bytes; many of them are those of markers.
func junk(source *rand.Rand, n int) []byte {
	b := make([]byte, n)
	for i := range b {
		b[i] = []byte{0, 0xff, 0xb3, 0xb4, byte(source.Uint32()), byte(source.Uint32())}[source.IntN(6)]
	}
	return b
}

// precinct is a precinct with the state of its encoder, and what it has included.
type precinct struct {
	grids          []api.Point
	planes         []int
	mode           api.Mode
	first, planned []int
	encoder        *pkthead.State
	layer          int
	included       []bool
}

// state returns a new state of the precinct.
func (p *precinct) state(t *testing.T) *pkthead.State {
	t.Helper()
	s, e := pkthead.New(p.grids, p.planes, p.mode)
	if e != api.OK {
		t.Fatalf("New(%v, %v) = %d", p.grids, p.planes, e)
	}
	return s
}

// drawn returns a small precinct with a plan.
func drawn(t *testing.T, source *rand.Rand) *precinct {
	t.Helper()
	p := &precinct{mode: api.Mode{Bypass: source.IntN(2) == 0, Restart: source.IntN(3) == 0}}
	for range source.IntN(4) {
		g := api.Point{X: 1 + source.IntN(3), Y: 1 + source.IntN(3)}
		if source.IntN(6) == 0 {
			g = api.Point{}
		}
		n := 1 + source.IntN(9)
		p.grids, p.planes = append(p.grids, g), append(p.planes, n)
		for range g.X * g.Y {
			p.first, p.planned = append(p.first, source.IntN(4)*source.IntN(2)), append(p.planned, 1+source.IntN(n))
		}
	}
	p.included = make([]bool, len(p.first))
	p.encoder = p.state(t)
	if e := p.encoder.Plan(p.first, p.planned); e != api.OK {
		t.Fatalf("Plan(%v, %v) = %d", p.first, p.planned, e)
	}
	return p
}

// packet returns the header and the body of the packet of the next layer, and the contributions as they are read.
func (p *precinct) packet(t *testing.T, source *rand.Rand, most int) (head, body []byte, l []api.Contribution) {
	t.Helper()
	for i := range p.first {
		c := api.Contribution{Planes: p.planned[i]}
		left := 3*c.Planes - 2 - p.encoder.Passes(i)
		switch {
		case p.layer == p.first[i]:
			c.Passes = 1 + source.IntN(left)
		case p.layer > p.first[i]:
			c.Passes = source.IntN(left + 1)
		}
		if c.Passes > 0 {
			p.included[i] = true
		}
		for range pkthead.Parts(p.encoder.Passes(i), c.Passes, p.mode) {
			c.Lengths = append(c.Lengths, source.IntN(most+1))
		}
		if !p.included[i] {
			c.Planes = 0
		}
		l = append(l, c)
	}
	p.layer++
	head, e := p.encoder.Encode(l)
	if e != api.OK {
		t.Fatalf("Encode(%v) = %d", l, e)
	}
	return head, junk(source, total(l)), l
}

// choices calls a function with all choices of the two markers.
func choices(f func(sync, fence bool)) {
	for i := range 4 {
		f(i&1 > 0, i&2 > 0)
	}
}

// P27.1
func TestChecksum(t *testing.T) {
	source := rand.New(rand.NewPCG(27, 1))
	check := func(b []byte) {
		t.Helper()
		if n := packet.Checksum(b); n != crc(b) {
			t.Fatalf("Checksum(%s) = %x; expected %x", brief(b), n, crc(b))
		}
	}
	check(nil)
	check([]byte{})
	for i := range 1 << 16 {
		check([]byte{byte(i >> 8), byte(i)})
		check([]byte{byte(i), byte(i >> 8), byte(i % 255)})
	}
	for n := range 300 {
		check(make([]byte, n))
		check(bytes.Repeat([]byte{0xff}, n))
		check(junk(source, n))
		check(junk(source, n+10)[n/2 : n])
	}
	check(junk(source, 1<<20))
}

// appendError follows P27.2.
func appendError(k api.Packet, seq int) api.Errno {
	switch {
	case seq < 0 || seq > 65535:
		return api.ErrRange
	case len(k.Head)+len(k.Body) > 1<<26:
		return api.ErrLimit
	}
	return api.OK
}

// expectAppend checks Append against the definition.
func expectAppend(t *testing.T, b []byte, k api.Packet, sync, fence bool, seq int) {
	t.Helper()
	var want []byte
	wantError := appendError(k, seq)
	if wantError == api.OK {
		want = append(slices.Clone(b), encoding(k.Head, k.Body, sync, fence, seq)...)
	}
	if got, e := packet.Append(b, k, sync, fence, seq); !bytes.Equal(got, want) || e != wantError {
		t.Fatalf("Append(%s, {%s, %s}, sync %v, fence %v, %d) = %s, %d; expected %s, %d", brief(b), brief(k.Head), brief(k.Body), sync, fence, seq, brief(got), e, brief(want), wantError)
	}
}

// P27.2: any heads and bodies, all choices of markers, and all kinds of sequence numbers
func TestAppend(t *testing.T) {
	source := rand.New(rand.NewPCG(27, 2))
	parts := [][]byte{nil, {}, {0}, {0xff, 0xb3}, {0xff, 0xb4, 0}, junk(source, 300), junk(source, 70000)}
	for _, head := range parts {
		for _, body := range parts {
			for i, seq := range extremes {
				if len(head)+len(body) > 1000 && i%4 > 0 {
					continue
				}
				k := api.Packet{ID: identities[i%len(identities)], Head: head, Body: body}
				choices(func(sync, fence bool) {
					expectAppend(t, [][]byte{nil, {}, {1, 2, 3}}[i%3], k, sync, fence, seq)
				})
			}
		}
	}
	for range 2000 {
		k := api.Packet{Head: junk(source, source.IntN(20)), Body: junk(source, source.IntN(20))}
		expectAppend(t, junk(source, source.IntN(20)), k, source.IntN(2) == 0, source.IntN(2) == 0, source.IntN(65536))
	}
}

// P27.2: as many bytes as a packet can have, and one more
func TestMostBytes(t *testing.T) {
	all := make([]byte, api.MaxStream+1)
	for i := range all {
		all[i] = byte(i / 7)
	}
	for i, head := range []int{0, 1, api.MaxStream / 2, api.MaxStream} {
		k := api.Packet{Head: all[:head], Body: all[head:api.MaxStream]}
		sync, fence := i%2 == 1, i > 1
		b, e := packet.Append([]byte{9}, k, sync, fence, i)
		rest := 1
		if sync {
			rest += 11
		}
		if fence {
			if !bytes.Equal(b[rest+head:rest+head+2], []byte{0xff, 0xb4}) {
				t.Errorf("the fence of a head with %d bytes is %x", head, b[rest+head:rest+head+2])
			}
			b = slices.Delete(b, rest+head, rest+head+2)
		}
		if e != api.OK || b[0] != 9 || !bytes.Equal(b[rest:], all[:api.MaxStream]) {
			t.Errorf("Append of a head with %d bytes = %d bytes, %d", head, len(b), e)
		}
		for _, k := range []api.Packet{{Head: all[:head], Body: all[head:]}, {Head: all[:head+1], Body: all[head:api.MaxStream]}} {
			if b, e := packet.Append(nil, k, sync, fence, i); len(b) != 0 || e != api.ErrLimit {
				t.Errorf("Append of one byte more = %d bytes, %d", len(b), e)
			}
			if b, e := packet.Append(nil, k, sync, fence, 65536-i*65537); i < 2 && (len(b) != 0 || e != api.ErrRange) {
				t.Errorf("Append of one byte more with a wrong sequence number = %d bytes, %d", len(b), e)
			}
		}
	}
	k := api.Packet{Head: all[:5], Body: all[5:api.MaxStream]}
	b, e := packet.Append(nil, k, true, true, 77)
	if seq, s, frameError := packet.Frame(b, 0); e != api.OK || seq != 77 || s != (api.Span{From: 11, To: 13 + api.MaxStream}) || frameError != api.OK {
		t.Errorf("Append = %d; Frame = %d, %v, %d", e, seq, s, frameError)
	}
}

// P27.3: packets that end in each of their bytes, at all offsets, whatever precedes and follows them
func TestFrame(t *testing.T) {
	source := rand.New(rand.NewPCG(27, 3))
	counts := map[api.Errno]int{}
	for range 400 {
		before, rest := junk(source, source.IntN(14)), junk(source, source.IntN(20))
		b := append(slices.Clone(before), framed(rest, source.IntN(65536))...)
		for n := range len(b) + 1 {
			counts[expectFrame(t, b[:n], len(before))]++
			expectFrame(t, b[:n:n], len(before))
		}
		b = append(b, junk(source, source.IntN(14))...)
		for at := -3; at <= len(b)+3; at++ {
			counts[expectFrame(t, b, at)]++
		}
		for _, at := range extremes {
			counts[expectFrame(t, b, at)]++
		}
		// several bytes are changed: the errors come in their order
		for range 40 {
			c := slices.Clone(b)
			for range 1 + source.IntN(4) {
				c[len(before)+source.IntN(len(c)-len(before))] = junk(source, 1)[0]
			}
			counts[expectFrame(t, c, len(before))]++
		}
	}
	for _, e := range []api.Errno{api.OK, api.ErrRange, api.ErrTruncated, api.ErrMarker, api.ErrChecksum} {
		if counts[e] < 100 {
			t.Errorf("Frame returned %d only %d times", e, counts[e])
		}
	}
	for _, b := range [][]byte{nil, {}, make([]byte, 0, 20)} {
		for _, at := range extremes {
			expectFrame(t, b, at)
		}
	}
}

// P27.3: forged markers whose check byte is right, with sizes up to the greatest number of four bytes
func TestForgedSizes(t *testing.T) {
	for at := range 3 {
		for left := range 5 {
			before, rest := bytes.Repeat([]byte{0xff}, at), make([]byte, left)
			for _, size := range []int{0, 1, 2, 3, 4, 5, 255, 256, 65535, 65536, 1<<24 - 1, 1 << 24, 1<<31 - 12, 1<<31 - 1, 1 << 31, 1<<32 - 14, 1<<32 - 13, 1<<32 - 12, 1<<32 - 11, 1<<32 - 10, 1<<32 - 2, 1<<32 - 1} {
				for _, sum := range []int{crc(rest[:min(size, left)]), 0, 0xffff} {
					for _, seq := range []int{0, 3, 65535} {
						b := slices.Concat(before, forged(seq, size, sum), rest)
						e := expectFrame(t, b, at)
						if (e == api.ErrTruncated) != (size > left) {
							t.Fatalf("Frame(%x, %d) = %d", b, at, e)
						}
						wrong := slices.Clone(b)
						wrong[at+10]++
						if e := expectFrame(t, wrong, at); e != api.ErrChecksum {
							t.Fatalf("Frame(%x, %d) = %d", wrong, at, e)
						}
						expectResync(t, b, 0, 0, 65535)
						s, _ := pkthead.New(nil, nil, api.Mode{})
						choices(func(sync, fence bool) {
							expectRead(t, b, at, s, sync, fence, 3)
							expectRead(t, wrong, at, s, sync, fence, 3)
						})
					}
				}
			}
		}
	}
}

// P27.7: one byte is replaced by each other one
func TestOneByteReplaced(t *testing.T) {
	source := rand.New(rand.NewPCG(27, 4))
	for i := range 60 {
		head, body := junk(source, source.IntN(4)), junk(source, source.IntN(8))
		if i == 0 {
			head, body = nil, nil
		}
		before := junk(source, source.IntN(4))
		b, e := packet.Append(before, api.Packet{Head: head, Body: body}, true, i%2 == 0, []int{0, 65535, source.IntN(65536)}[i%3])
		if e != api.OK {
			t.Fatalf("Append = %d", e)
		}
		end := len(b)
		b = append(b, junk(source, 300*(i%3))...)
		if e := expectFrame(t, b, len(before)); e != api.OK {
			t.Fatalf("Frame(%s) = %d", brief(b), e)
		}
		for at := len(before); at < end; at++ {
			old := b[at]
			for v := range 256 {
				if b[at] = byte(v); b[at] == old {
					continue
				}
				if e := expectFrame(t, b, len(before)); e == api.OK {
					t.Fatalf("Frame(%s, %d) returns no error, but the byte at %d was %x", brief(b), len(before), at, old)
				}
			}
			b[at] = old
		}
	}
}

// P27.6: the packets of all layers of a precinct, written one after the other and read back, whatever precedes and follows them
func TestRoundTrip(t *testing.T) {
	source := rand.New(rand.NewPCG(27, 5))
	for i := range 600 {
		p := drawn(t, source)
		sync, fence := i&1 > 0, i&2 > 0
		reader := p.state(t)
		b := junk(source, source.IntN(14))
		at, seq := len(b), source.IntN(65536-16)
		var packets []api.Packet
		var contributions [][]api.Contribution
		for layer := range 1 + source.IntN(api.MaxLayers) {
			head, body, l := p.packet(t, source, 40)
			k := api.Packet{ID: api.PacketID{Comp: i, Layer: layer}, Head: head, Body: body}
			next, e := packet.Append(b, k, sync, fence, seq+layer)
			if e != api.OK {
				t.Fatalf("Append = %d", e)
			}
			b, packets, contributions = next, append(packets, k), append(contributions, l)
		}
		end := len(b)
		b = append(b, junk(source, source.IntN(14))...)
		for layer, want := range packets {
			k, l, next, e := packet.Read(b, at, reader, want.ID, sync, fence, seq+layer)
			if e != api.OK || !samePacket(k, want) || !same(l, contributions[layer]) {
				t.Fatalf("the packet %v with %v is read as %v with %v, %d", want, contributions[layer], k, l, e)
			}
			if size := len(encoding(want.Head, want.Body, sync, fence, 0)); next != at+size {
				t.Fatalf("a packet with %d bytes at %d ends at %d", size, at, next)
			}
			at = next
		}
		if at != end {
			t.Fatalf("the last packet ends at %d; expected %d", at, end)
		}
	}
}

// P27.4: packets that are cut off, extended or damaged, with and without a synchronization marker that is right
func TestReadErrors(t *testing.T) {
	source := rand.New(rand.NewPCG(27, 6))
	counts := map[string]int{}
	for i := range 100 {
		p := drawn(t, source)
		s := p.state(t)
		for range source.IntN(5) { // some layers are read before
			head, _, _ := p.packet(t, source, 20)
			s.Decode(head)
		}
		head, body, _ := p.packet(t, source, 20)
		before, seq := junk(source, source.IntN(4)), source.IntN(65536)
		choices(func(sync, fence bool) {
			read := func(rest []byte, seqs ...int) {
				t.Helper()
				for _, n := range append(seqs, seq) {
					b := slices.Concat(before, rest)
					if sync {
						b = slices.Concat(before, framed(rest, n))
					}
					counts[expectRead(t, b, len(before), s, sync, fence, seq)]++
					b = append(b, junk(source, 3)...)
					counts[expectRead(t, b, len(before), s, sync, fence, seq)]++
				}
			}
			rest := encoding(head, body, false, fence, seq)
			read(rest, seq^1, seq^0x8000, 65535-seq)
			for n := range len(rest) {
				read(rest[:n])
			}
			read(append(slices.Clone(rest), 0))
			read(append(slices.Clone(rest), junk(source, 5)...))
			for range 30 { // wrong headers, fences and bodies
				c := slices.Clone(rest)
				for range 1 + source.IntN(2) {
					k := source.IntN(len(c))
					if source.IntN(2) == 0 {
						k = min(len(c)-1, len(head)+source.IntN(2))
					}
					c[k] = []byte{byte(source.Uint32()), c[k] ^ 1, c[k] + 1, 0xff}[source.IntN(4)]
				}
				read(c[:len(c)-source.IntN(2)*source.IntN(len(c))], seq^i)
			}
			read(junk(source, source.IntN(20)))
			b := append(slices.Concat(before, encoding(head, body, sync, fence, seq)), junk(source, source.IntN(5))...)
			for n := range b { // cut off, and at other offsets
				counts[expectRead(t, b[:n], len(before), s, sync, fence, seq)]++
				counts[expectRead(t, b[:n], min(n, len(before)), s, sync, fence, seq)]++
				counts[expectRead(t, b, n, s, sync, fence, seq)]++
			}
		})
	}
	for _, why := range []string{"", "range", "marker", "sequence number", "rest", "header", "end before the fence", "fence", "body", "bytes are left"} {
		if counts[why] < 100 {
			t.Errorf("Read returned the error %q only %d times", why, counts[why])
		}
	}
}

// P27.4: markers with each of their bytes replaced by each other one; errors in their order
func TestReadMarkers(t *testing.T) {
	source := rand.New(rand.NewPCG(27, 7))
	counts := map[string]int{}
	for i := range 12 {
		p := drawn(t, source)
		s := p.state(t)
		head, body, _ := p.packet(t, source, 3)
		seq, fence := []int{0, 65535, 0xb3ff}[i%3], i%2 == 0
		before := junk(source, source.IntN(4))
		b := slices.Concat(before, encoding(head, body, true, fence, seq), junk(source, 300*(i%2)))
		for at := len(before); at < len(before)+packet.Head+len(head)+2 && at < len(b); at++ {
			old := b[at]
			for v := range 256 {
				b[at] = byte(v)
				counts[expectRead(t, b, len(before), s, true, fence, seq)]++
				// the check byte is changed with it
				if k := len(before) + 10; at < k {
					check := b[k]
					b[k] += b[at] - old
					counts[expectRead(t, b, len(before), s, true, fence, seq)]++
					b[k] = check
				}
			}
			b[at] = old
		}
	}
	for _, why := range []string{"", "marker", "sequence number", "rest"} {
		if counts[why] < 10 {
			t.Errorf("Read returned the error %q only %d times", why, counts[why])
		}
	}
}

// P27.4: offsets and sequence numbers of all kinds
func TestReadRanges(t *testing.T) {
	s, e := pkthead.New([]api.Point{{X: 1, Y: 1}}, []int{3}, api.Mode{})
	if e != api.OK {
		t.Fatalf("New = %d", e)
	}
	choices(func(sync, fence bool) {
		for _, seq := range []int{0, 1, 255, 256, 65534, 65535} {
			b := encoding([]byte{210, 10}, []byte("hello"), sync, fence, seq)
			for _, n := range append([]int{seq, seq - 1, seq + 1, seq - 65536, seq + 65536, seq + 1<<32, -seq}, extremes...) {
				expectRead(t, b, 0, s, sync, fence, n)
				for at := -2; at < len(b)+3; at++ {
					expectRead(t, b, at, s, sync, fence, n)
				}
				for _, at := range extremes {
					expectRead(t, b, at, s, sync, fence, n)
				}
			}
			if why := expectRead(t, b, 0, s, sync, fence, seq); why != "" {
				t.Errorf("a packet is not read: %s", why)
			}
		}
		for _, b := range [][]byte{nil, {}, make([]byte, 0, 30)} {
			for _, at := range extremes {
				expectRead(t, b, at, s, sync, fence, 0)
			}
		}
	})
}

// P27.4: states that are nil, that package pkthead did not return, that are planned, or that have no layer left
func TestStates(t *testing.T) {
	fresh := func() *pkthead.State {
		s, e := pkthead.New([]api.Point{{X: 1, Y: 1}}, []int{3}, api.Mode{})
		if e != api.OK {
			t.Fatalf("New = %d", e)
		}
		return s
	}
	zero, planned, spent := &pkthead.State{}, fresh(), fresh()
	moved := *fresh()
	if e := planned.Plan([]int{0}, []int{2}); e != api.OK {
		t.Fatalf("Plan = %d", e)
	}
	for range api.MaxLayers {
		if _, _, e := spent.Decode([]byte{0}); e != api.OK {
			t.Fatalf("Decode = %d", e)
		}
	}
	counts := map[string]int{}
	choices(func(sync, fence bool) {
		whole := encoding([]byte{210, 10}, []byte("hello"), sync, fence, 7)
		damaged := slices.Clone(whole)
		damaged[len(damaged)-1]++
		for i, s := range []*pkthead.State{nil, zero, &moved, planned, spent, fresh()} {
			for _, b := range [][]byte{nil, whole, whole[:1], whole[:len(whole)-1], append(slices.Clone(whole), 0), damaged, {0}, {0xff}, make([]byte, 11)} {
				for _, at := range []int{0, 1, -1, len(b), len(b) + 1} {
					for _, seq := range []int{7, 8, -1, 65536} {
						why := expectRead(t, b, at, s, sync, fence, seq)
						counts[why]++
						if (why == "state") != (i < 3) {
							t.Fatalf("state %d: Read(%x, %d) has the error %q", i, b, at, why)
						}
					}
				}
			}
			if _, _, _, e := packet.Read(whole, 0, s, api.PacketID{}, sync, fence, 7); (e == api.ErrState) != (i < 5) {
				t.Fatalf("state %d: Read = %d", i, e)
			}
		}
	})
	if !reflect.DeepEqual(zero, &pkthead.State{}) {
		t.Error("the zero State has changed")
	}
	if b, e := planned.Encode([]api.Contribution{{Planes: 2, Passes: 4, Lengths: []int{5}}}); !bytes.Equal(b, []byte{210, 10}) || e != api.OK {
		t.Errorf("the planned state encodes %x, %d", b, e)
	}
	for _, why := range []string{"", "state", "range", "marker", "sequence number", "rest", "header"} {
		if counts[why] == 0 {
			t.Errorf("Read did not return the error %q", why)
		}
	}
}

// P27.4: a state reads as many packets as there are layers, and failures in between do not count
func TestAllLayers(t *testing.T) {
	source := rand.New(rand.NewPCG(27, 8))
	for i := range 100 {
		p := drawn(t, source)
		s, other := p.state(t), p.state(t)
		sync, fence := i&1 > 0, i&2 > 0
		for layer := range api.MaxLayers {
			head, body, l := p.packet(t, source, 20)
			b := encoding(head, body, sync, fence, layer)
			for range 5 {
				if _, _, _, e := packet.Read(b[:source.IntN(len(b))], 0, s, api.PacketID{}, sync, fence, layer+source.IntN(2)); e == api.OK {
					t.Fatalf("a packet that is cut off is read")
				}
			}
			if _, got, next, e := packet.Read(b, 0, s, api.PacketID{}, sync, fence, layer); e != api.OK || next != len(b) || !same(got, l) {
				t.Fatalf("Read(%x) = %v, %d, %d", b, got, next, e)
			}
			if _, _, e := other.Decode(head); e != api.OK || !reflect.DeepEqual(s, other) {
				t.Fatalf("Read does not advance the state as Decode does")
			}
		}
		if k, l, next, e := packet.Read([]byte{0, 0xff, 0xb4}, 0, s, api.PacketID{Layer: 9}, false, fence, 0); !samePacket(k, api.Packet{}) || len(l) != 0 || next != 0 || e != api.ErrState {
			t.Fatalf("Read of one layer more = %v, %v, %d, %d", k, l, next, e)
		}
	}
}

// P27.4: bodies as large as the bytes of many blocks, and large precincts
func TestLargeBodies(t *testing.T) {
	grids, planes := []api.Point{{X: 40, Y: 20}}, []int{1}
	encoder, e := pkthead.New(grids, planes, api.Mode{})
	if e != api.OK {
		t.Fatalf("New = %d", e)
	}
	reader := encoder.Clone()
	if e := encoder.Plan(make([]int, 800), slices.Repeat([]int{1}, 800)); e != api.OK {
		t.Fatalf("Plan = %d", e)
	}
	l := slices.Repeat([]api.Contribution{{Planes: 1, Passes: 1, Lengths: []int{api.MaxBlockBytes}}}, 800)
	head, e := encoder.Encode(l)
	if e != api.OK {
		t.Fatalf("Encode = %d", e)
	}
	body := make([]byte, 800*api.MaxBlockBytes)
	for i := range body {
		body[i] = byte(i / 5)
	}
	b, e := packet.Append([]byte{1}, api.Packet{Head: head, Body: body}, true, true, 9)
	if e != api.OK {
		t.Fatalf("Append = %d", e)
	}
	for _, sync := range []bool{false, true} {
		at := 1
		if !sync {
			at += packet.Head
		}
		if _, _, next, e := packet.Read(b[:len(b)-1], at, reader, api.PacketID{}, sync, true, 9); next != 0 || e != api.ErrTruncated {
			t.Errorf("Read of a body that is cut off = %d, %d", next, e)
		}
		k, got, next, e := packet.Read(append(b, 7), at, reader.Clone(), api.PacketID{}, sync, true, 9)
		if e != api.OK || next != len(b) || !same(got, l) || !bytes.Equal(k.Body, body) || !bytes.Equal(k.Head, head) {
			t.Errorf("Read of a large body = %d, %d", next, e)
		}
	}
}

// P27.5: packets, damaged or not, with other bytes between them
func TestResync(t *testing.T) {
	source := rand.New(rand.NewPCG(27, 9))
	found, missed := 0, 0
	for range 400 {
		var b []byte
		first := []int{0, 65530, source.IntN(65000)}[source.IntN(3)]
		for i := range 1 + source.IntN(5) {
			switch source.IntN(4) {
			case 0:
				b = append(b, junk(source, source.IntN(8))...)
			case 1:
				b = append(b, 0xff, 0xb3)
			case 2:
				b = append(b, 0xff)
			}
			k := framed(junk(source, source.IntN(12)), min(first+i, 65535))
			if source.IntN(3) == 0 {
				k[source.IntN(len(k))] ^= byte(1 + source.IntN(255))
			}
			b = append(b, k[:len(k)-max(0, source.IntN(9)-6)]...)
		}
		for at := -2; at <= len(b)+2; at++ {
			low := first + source.IntN(4) - 1
			high := low + source.IntN(5) - 1
			if expectResync(t, b, at, low, high) {
				found++
			} else {
				missed++
			}
			expectResync(t, b, at, 0, 65535)
		}
		for _, low := range extremes {
			for _, high := range extremes {
				expectResync(t, b, 0, low, high)
			}
			expectResync(t, b, 0, first, low)
			expectResync(t, b, 0, low, first+2)
		}
		for _, at := range extremes {
			expectResync(t, b, at, 0, 65535)
			expectResync(t, b, at, math.MinInt, math.MaxInt)
		}
	}
	if found < 1000 || missed < 1000 {
		t.Errorf("Resync found a packet %d times, and none %d times", found, missed)
	}
}

// P27.5: packets within packets, and packets that end in each of their bytes
func TestResyncWithin(t *testing.T) {
	inner := framed([]byte{1, 2, 3}, 5)
	outer := framed(slices.Concat([]byte{0xff, 0xb3}, inner, []byte{0xff, 0xb3, 0}), 4)
	b := slices.Concat([]byte{0xff, 0xff, 0xb3}, outer, framed(nil, 6))
	for i, c := range []struct {
		at, low, high, next, seq int
		ok                       bool
	}{
		{0, 0, 65535, 3, 4, true},
		{3, 4, 4, 3, 4, true},
		{4, 4, 4, 0, 0, false},
		{4, 0, 9, 16, 5, true},
		{0, 5, 5, 16, 5, true},
		{0, 6, 5, 0, 0, false},
		{17, 5, 7, 3 + len(outer), 6, true},
		{17, 7, 65535, 0, 0, false},
		{len(b) - 11, 6, 6, len(b) - 11, 6, true},
		{len(b) - 10, 0, 65535, 0, 0, false},
		{len(b), 0, 65535, 0, 0, false},
		{len(b) + 1, 0, 65535, 0, 0, false},
		{-1, 0, 65535, 0, 0, false},
	} {
		if next, seq, ok := packet.Resync(b, c.at, c.low, c.high); next != c.next || seq != c.seq || ok != c.ok {
			t.Errorf("%d: Resync = %d, %d, %v; expected %d, %d, %v", i, next, seq, ok, c.next, c.seq, c.ok)
		}
	}
	for n := range b {
		expectResync(t, b[:n], 0, 0, 65535)
		expectResync(t, b[:n], 4, 0, 65535)
	}
	if expectResync(t, nil, 0, 0, 65535) || expectResync(t, []byte{}, 0, math.MinInt, math.MaxInt) {
		t.Error("Resync finds a packet without bytes")
	}
}

// P27.5: many markers that are right, but for packets with other sequence numbers: their rests are not looked at
func TestResyncInManyMarkers(t *testing.T) {
	b := bytes.Repeat(forged(1, 300000, 0), 60000)
	b = append(b, framed([]byte{0}, 2)...)
	if next, seq, ok := packet.Resync(b, 0, 2, 65535); next != len(b)-12 || seq != 2 || !ok {
		t.Errorf("Resync = %d, %d, %v; expected %d", next, seq, ok, len(b)-12)
	}
}

// P27.3, P27.4, P27.5: any bytes
func TestAnyBytes(t *testing.T) {
	source := rand.New(rand.NewPCG(27, 10))
	for range 300 {
		p := drawn(t, source)
		s := p.state(t)
		for range 20 {
			b := junk(source, source.IntN(40))
			if source.IntN(2) == 0 {
				b = append(b, forged(source.IntN(3), source.IntN(4), 0xffff)...)
			}
			at := source.IntN(len(b) + 1)
			expectFrame(t, b, at)
			expectResync(t, b, at, source.IntN(3), 65535)
			expectRead(t, b, at, s, source.IntN(2) == 0, source.IntN(2) == 0, source.IntN(3))
		}
	}
}

// behind returns bytes with capacity and other bytes behind them.
func behind(b []byte) []byte {
	return append(slices.Clone(b), bytes.Repeat([]byte{0xEE}, 40)...)[:len(b)]
}

// expectUnchanged checks that bytes, and those behind them, are as they were.
func expectUnchanged(t *testing.T, b, want []byte) {
	t.Helper()
	if long := b[:len(b)+40]; !bytes.Equal(b, want) || !bytes.Equal(long[len(b):], bytes.Repeat([]byte{0xEE}, 40)) {
		t.Fatalf("%x has become %x", want, long)
	}
}

// spoil overwrites bytes, and those behind them.
func spoil(b []byte) {
	b = b[:cap(b)]
	for i := range b {
		b[i] ^= 0x55
	}
}

// Rule R6: arguments stay as they are, with what lies behind them; results share no memory with them, nor with each other
func TestMemory(t *testing.T) {
	source := rand.New(rand.NewPCG(27, 11))
	for i := range 1000 {
		p := drawn(t, source)
		head, body, l := p.packet(t, source, 9)
		sync, fence := i&1 > 0, i&2 > 0
		before := junk(source, source.IntN(9))
		whole := slices.Concat(before, encoding(head, body, sync, fence, 5))
		b, h, k := behind(before), behind(head), behind(body)
		got, e := packet.Append(b, api.Packet{Head: h, Body: k}, sync, fence, 5)
		expectUnchanged(t, b, before)
		expectUnchanged(t, h, head)
		expectUnchanged(t, k, body)
		spoil(b)
		spoil(h)
		spoil(k)
		if e != api.OK || !bytes.Equal(got, whole) {
			t.Fatalf("the result of Append changes with its arguments: %x", got)
		}

		b = behind(whole)
		s := p.state(t)
		read, contributions, next, e := packet.Read(b, len(before), s, api.PacketID{}, sync, fence, 5)
		expectUnchanged(t, b, whole)
		if e != api.OK || next != len(whole) {
			t.Fatalf("Read = %d, %d", next, e)
		}
		packet.Frame(b, len(before))
		packet.Resync(b, 0, 0, 65535)
		packet.Checksum(b)
		expectUnchanged(t, b, whole)
		spoil(b)
		if !bytes.Equal(read.Head, head) || !bytes.Equal(read.Body, body) {
			t.Fatalf("the result of Read changes with its argument")
		}
		b = behind(whole)
		read, contributions, _, _ = packet.Read(b, len(before), p.state(t), api.PacketID{}, sync, fence, 5)
		spoil(read.Head)
		if !bytes.Equal(read.Body, body) || !same(contributions, l) {
			t.Fatalf("the parts of a result share memory")
		}
		spoil(read.Body)
		for i := range contributions {
			clear(contributions[i].Lengths[:cap(contributions[i].Lengths)])
			if !same(contributions[i+1:], l[i+1:]) {
				t.Fatalf("the lengths of contributions share memory")
			}
		}
		expectUnchanged(t, b, whole)
	}
}

// Rule R6: the head or the body of a packet lies in the capacity of the bytes
func TestOverlap(t *testing.T) {
	all := []byte{1, 2, 3, 4, 5, 6, 7, 8, 9, 10, 11, 12, 13, 14, 15, 16, 17, 18, 19, 20}
	for n := range 10 {
		choices(func(sync, fence bool) {
			b := slices.Clone(all)
			k := api.Packet{Head: b[n+1 : n+4], Body: b[n+2 : n+9]}
			want := slices.Concat(all[:n], encoding(all[n+1:n+4], all[n+2:n+9], sync, fence, 3))
			if got, e := packet.Append(b[:n], k, sync, fence, 3); !bytes.Equal(got, want) || e != api.OK || !bytes.Equal(b, all) {
				t.Errorf("Append = %x, %d; expected %x", got, e, want)
			}
		})
	}
}

// The examples of the chapter.
func TestExamples(t *testing.T) {
	if n := packet.Checksum([]byte("123456789")); n != 0x29b1 {
		t.Errorf("Checksum = %x", n)
	}
	if n := packet.Checksum(nil); n != 0xffff {
		t.Errorf("Checksum of no bytes = %x", n)
	}
	if packet.Sync != 0xffb3 || packet.Fence != 0xffb4 || packet.Head != 11 {
		t.Error("the constants")
	}
	b, e := packet.Append(nil, api.Packet{Head: []byte{0}}, true, true, 3)
	sum := packet.Checksum([]byte{0, 0xff, 0xb4})
	want := []byte{0xff, 0xb3, 0, 3, 0, 0, 0, 3, byte(sum >> 8), byte(sum), 0, 0, 0xff, 0xb4}
	for _, v := range want[:10] {
		want[10] += v
	}
	if e != api.OK || len(b) != 14 || !bytes.Equal(b, want) {
		t.Errorf("Append = %x, %d; expected %x", b, e, want)
	}
	if seq, s, e := packet.Frame(b, 0); seq != 3 || s != (api.Span{From: 11, To: 14}) || e != api.OK {
		t.Errorf("Frame = %d, %v, %d", seq, s, e)
	}
	for at, want := range map[int]api.Errno{1: api.ErrMarker, 14: api.ErrTruncated, 15: api.ErrRange} {
		if seq, s, e := packet.Frame(b, at); seq != 0 || s != (api.Span{}) || e != want {
			t.Errorf("Frame at %d = %d, %v, %d; expected %d", at, seq, s, e, want)
		}
	}
	b = append([]byte{0xff, 0xb3}, b...)
	if next, seq, ok := packet.Resync(b, 0, 0, 9); next != 2 || seq != 3 || !ok {
		t.Errorf("Resync = %d, %d, %v", next, seq, ok)
	}
	if next, seq, ok := packet.Resync(b, 0, 4, 9); next != 0 || seq != 0 || ok {
		t.Errorf("Resync = %d, %d, %v", next, seq, ok)
	}
}
