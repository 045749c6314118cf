package headseg_test

import (
	"bytes"
	"fmt"
	"math"
	"math/rand/v2"
	"reflect"
	"slices"
	"strings"
	"testing"

	"wavelet/api"
	"wavelet/headseg"
	"wavelet/marker"
	"wavelet/params"
)

// extremes are numbers at the ends of the integers and of the ranges of fields, and one past them.
var extremes = []int{math.MinInt, math.MinInt + 1, math.MinInt + 256, -1 << 32, -65536, -256, -2, -1, 0, 1, 2, 15, 16, 127, 128, 254, 255, 256, 257, 4096, 65534, 65535, 65536, 65537, 1<<24 - 1, 1 << 24, 1<<32 - 1, 1 << 32, 1<<32 + 1, 1 << 62, math.MaxInt - 1, math.MaxInt}

// codes are those of segments, with some that are near them.
var codes = []int{marker.Start, marker.Size, marker.Coding, marker.Quant, marker.Comment, marker.Index, marker.End, marker.Tile, marker.Lengths, marker.Data, 0xff9f, 0xffa6, 0xffb3, 0xffb4, marker.Size - 1<<16, -marker.Size, marker.Tile + 1<<16, marker.Index & 255, 0, -1, math.MinInt, math.MaxInt}

func fits(v, low, high int) bool { return low <= v && v <= high }

// digits returns a number in n bytes.
func digits(v, n int) []byte {
	var b []byte
	for i := n - 1; i >= 0; i-- {
		b = append(b, byte(v/(1<<(8*i))%256))
	}
	return b
}

// number returns the number in bytes.
func number(b []byte) int {
	v := 0
	for _, d := range b {
		v = 256*v + int(d)
	}
	return v
}

// brief returns bytes as a text that is not too long.
func brief(b []byte) string {
	if len(b) > 40 {
		return fmt.Sprintf("%x.. (%d bytes)", b[:40], len(b))
	}
	return fmt.Sprintf("%x", b)
}

func same(a, b api.Segment) bool { return a.Code == b.Code && bytes.Equal(a.Payload, b.Payload) }

// sameParams reports whether all fields are equal; nil and empty slices are.
func sameParams(p, q api.Params) bool {
	_, equal := params.Same(api.Header{}, api.Header{}, p, q)
	return equal
}

func sameHeader(g, h api.Header) bool {
	equal, _ := params.Same(g, h, api.Params{}, api.Params{})
	return equal
}

// drawnHeader returns a valid header.
func drawnHeader(source *rand.Rand) api.Header {
	for {
		x, y := source.IntN(4097), source.IntN(4097)
		if source.IntN(3) == 0 {
			x, y = 0, 0
		}
		h := api.Header{
			Area:  api.Rect{X0: x, Y0: y, X1: x + source.IntN(4097-x), Y1: y + source.IntN(4097-y)},
			TileW: 1 + source.IntN(4096), TileH: 4096 - source.IntN(4000),
		}
		for range 1 + source.IntN(4) {
			h.Components = append(h.Components, api.Component{Depth: 1 + source.IntN(16), Signed: source.IntN(2) == 0, DX: 1 + source.IntN(4), DY: 1 + source.IntN(4)})
		}
		if params.Header(h) == api.OK {
			return h
		}
	}
}

// sizeBytes returns the payload of a header by the definition.
func sizeBytes(h api.Header) []byte {
	b := slices.Concat(digits(h.Area.X0, 2), digits(h.Area.Y0, 2), digits(h.Area.X1, 2), digits(h.Area.Y1, 2), digits(h.TileW, 2), digits(h.TileH, 2), digits(len(h.Components), 1))
	for _, c := range h.Components {
		d := c.Depth - 1
		if c.Signed {
			d += 128
		}
		b = append(b, byte(d), byte(c.DX), byte(c.DY))
	}
	return b
}

// parseSizeModel follows P29.1.
func parseSizeModel(s api.Segment) (h api.Header, e api.Errno) {
	b := s.Payload
	switch {
	case s.Code != 0xffa1:
		return h, api.ErrMarker
	case len(b) < 13 || len(b) < 13+3*int(b[12]):
		return h, api.ErrTruncated
	case len(b) > 13+3*int(b[12]):
		return h, api.ErrTrailing
	}
	var n [6]int
	for i := range n {
		n[i] = number(b[2*i : 2*i+2])
	}
	h = api.Header{Area: api.Rect{X0: n[0], Y0: n[1], X1: n[2], Y1: n[3]}, TileW: n[4], TileH: n[5]}
	for i := 13; i < len(b); i += 3 {
		c := api.Component{Depth: int(b[i]&127) + 1, Signed: b[i] > 127, DX: int(b[i+1]), DY: int(b[i+2])}
		h.Components = append(h.Components, c)
	}
	if e := params.Header(h); e != api.OK {
		return api.Header{}, e
	}
	return h, api.OK
}

// expectParseSize checks ParseSize against the definition.
func expectParseSize(t *testing.T, s api.Segment) api.Errno {
	t.Helper()
	want, wantError := parseSizeModel(s)
	h, e := headseg.ParseSize(s)
	if !sameHeader(h, want) || e != wantError {
		t.Fatalf("ParseSize({%x, %s}) = %+v, %d; expected %+v, %d", s.Code, brief(s.Payload), h, e, want, wantError)
	}
	if again, e := headseg.Size(h); wantError == api.OK && (e != api.OK || !same(again, s)) {
		t.Fatalf("what is read of {%x, %s} is written as {%x, %s}, %d", s.Code, brief(s.Payload), again.Code, brief(again.Payload), e)
	}
	return wantError
}

// around calls a function for a payload, for all that begins with it and for all with which it begins, and with all its bytes changed.
func around(source *rand.Rand, payload []byte, check func(b []byte)) {
	check(payload)
	for n := range payload {
		check(payload[:n])
		check(payload[:n:n])
	}
	for n := 1; n < 5; n++ {
		check(append(slices.Clone(payload), make([]byte, n)...))
	}
	for i := range payload {
		b := slices.Clone(payload)
		for _, v := range []byte{0, 1, 2, 3, 4, 5, 15, 16, 17, 127, 128, 143, 144, 255, b[i] + 1, b[i] - 1, byte(source.Uint32())} {
			b[i] = v
			check(b)
		}
	}
}

// atLeast checks that each error was returned so many times.
func atLeast(t *testing.T, n int, counts map[api.Errno]int, errors ...api.Errno) {
	t.Helper()
	for _, e := range errors {
		if counts[e] < n {
			t.Errorf("the error %d was returned only %d times", e, counts[e])
		}
	}
}

// P29.1, P29.7: valid headers
func TestSize(t *testing.T) {
	source := rand.New(rand.NewPCG(29, 1))
	headers := []api.Header{
		{Area: api.Rect{X1: 1, Y1: 1}, TileW: 1, TileH: 1, Components: []api.Component{{Depth: 1, DX: 1, DY: 1}}},
		{Area: api.Rect{X0: 4095, Y0: 4095, X1: 4096, Y1: 4096}, TileW: 4096, TileH: 4096, Components: []api.Component{{Depth: 16, Signed: true, DX: 3, DY: 1}}},
		{Area: api.Rect{X0: 258, Y0: 3, X1: 1282, Y1: 1027}, TileW: 4096, TileH: 255, Components: []api.Component{{Depth: 16, DX: 1, DY: 1}, {Depth: 1, Signed: true, DX: 4, DY: 4}, {Depth: 9, DX: 2, DY: 3}, {Depth: 8, Signed: true, DX: 3, DY: 2}}},
	}
	for range 1000 {
		headers = append(headers, drawnHeader(source))
	}
	for _, h := range headers {
		want := api.Segment{Code: 0xffa1, Payload: sizeBytes(h)}
		s, e := headseg.Size(h)
		if !same(s, want) || e != api.OK {
			t.Fatalf("Size(%+v) = {%x, %s}, %d; expected {%x, %s}", h, s.Code, brief(s.Payload), e, want.Code, brief(want.Payload))
		}
		if again, e := headseg.ParseSize(s); e != api.OK || !sameHeader(again, h) {
			t.Fatalf("%+v is read back as %+v, %d", h, again, e)
		}
	}
}

// faulty calls a function for copies of a header with one fault each, and for some with none.
func faulty(h api.Header, check func(h api.Header)) {
	for i := range 6 {
		for _, v := range extremes {
			g := h
			*[]*int{&g.Area.X0, &g.Area.Y0, &g.Area.X1, &g.Area.Y1, &g.TileW, &g.TileH}[i] = v
			check(g)
		}
	}
	for n := range 8 {
		g := h
		g.Components = slices.Repeat(h.Components[:1], n)
		check(g)
	}
	g := h
	g.Components = slices.Repeat(h.Components[:1], 300)
	check(g)
	for i := range h.Components {
		for field := range 3 {
			for _, v := range append([]int{3, 4, 5, 14, 17, 18}, extremes...) {
				g := h
				g.Components = slices.Clone(h.Components)
				c := &g.Components[i]
				*[]*int{&c.Depth, &c.DX, &c.DY}[field] = v
				check(g)
			}
		}
	}
}

// P29.1: each fault of a header
func TestSizeErrors(t *testing.T) {
	source := rand.New(rand.NewPCG(29, 2))
	counts := map[api.Errno]int{}
	check := func(h api.Header) {
		t.Helper()
		want := api.Segment{}
		wantError := params.Header(h)
		if wantError == api.OK {
			want = api.Segment{Code: 0xffa1, Payload: sizeBytes(h)}
		}
		if s, e := headseg.Size(h); !same(s, want) || e != wantError {
			t.Fatalf("Size(%+v) = {%x, %s}, %d; expected {%x, %s}, %d", h, s.Code, brief(s.Payload), e, want.Code, brief(want.Payload), wantError)
		}
		counts[wantError]++
	}
	check(api.Header{})
	for range 20 {
		faulty(drawnHeader(source), check)
	}
	one := []api.Component{{Depth: 8, DX: 1, DY: 1}}
	check(api.Header{Area: api.Rect{X1: 33, Y1: 32}, TileW: 1, TileH: 1, Components: one})
	check(api.Header{Area: api.Rect{X1: 4096, Y1: 257}, TileW: 4096, TileH: 4096, Components: one})
	check(api.Header{Area: api.Rect{X0: 1, X1: 2, Y1: 1}, TileW: 1, TileH: 1, Components: []api.Component{{Depth: 8, DX: 2, DY: 1}}})
	atLeast(t, 1, counts, api.OK, api.ErrHeader, api.ErrLimit)
}

// P29.1, P29.8: payloads that end too early, too late, and with each byte changed
func TestParseSize(t *testing.T) {
	source := rand.New(rand.NewPCG(29, 3))
	counts := map[api.Errno]int{}
	for range 40 {
		around(source, sizeBytes(drawnHeader(source)), func(b []byte) {
			counts[expectParseSize(t, api.Segment{Code: marker.Size, Payload: b})]++
		})
	}
	// no component, and as many as a payload can have
	b := sizeBytes(drawnHeader(source))[:13]
	for n := range 256 {
		b[12] = byte(n)
		for _, more := range []int{3*n - 3, 3*n - 1, 3 * n, 3*n + 1, 3*n + 3} {
			long := append(slices.Clone(b), bytes.Repeat([]byte{7, 1, 1}, n+1)[:max(0, more)]...)
			counts[expectParseSize(t, api.Segment{Code: marker.Size, Payload: long})]++
		}
	}
	for range 20000 {
		h := drawnHeader(source)
		b := sizeBytes(h)
		for range 1 + source.IntN(3) {
			b[source.IntN(len(b))] = byte(source.Uint32())
		}
		counts[expectParseSize(t, api.Segment{Code: marker.Size, Payload: b})]++
	}
	atLeast(t, 20, counts, api.OK, api.ErrTruncated, api.ErrTrailing, api.ErrHeader, api.ErrLimit)
	// a header that is not valid, with bytes left
	invalid := append(make([]byte, 13), 0)
	if e := expectParseSize(t, api.Segment{Code: marker.Size, Payload: invalid}); e != api.ErrTrailing {
		t.Errorf("ParseSize of an invalid header with a byte behind it = %d", e)
	}
	if e := expectParseSize(t, api.Segment{Code: marker.Size, Payload: invalid[:13]}); e != api.ErrHeader {
		t.Errorf("ParseSize of an invalid header = %d", e)
	}
	tiles := sizeBytes(api.Header{Area: api.Rect{X1: 33, Y1: 32}, TileW: 1, TileH: 1, Components: []api.Component{{Depth: 8, DX: 1, DY: 1}}})
	if e := expectParseSize(t, api.Segment{Code: marker.Size, Payload: tiles}); e != api.ErrLimit {
		t.Errorf("ParseSize of 1056 tiles = %d", e)
	}
}

// A segment with a wrong code, and whatever else is wrong.
func TestCodes(t *testing.T) {
	source := rand.New(rand.NewPCG(29, 4))
	size := sizeBytes(drawnHeader(source))
	payloads := [][]byte{nil, {}, {0}, size, append(slices.Clone(size), 0), {2, 1, 0, 2, 2, 1, 3, 65, 0, 0}, {16, 1, 0, 0}, {0, 1, 0, 2, 0, 0, 1, 44}, {0, 0, 0, 0, 1}, make([]byte, 70000)}
	for _, code := range codes {
		for _, b := range payloads {
			s := api.Segment{Code: code, Payload: b}
			wrong := func(name string, own int, e api.Errno, zero bool) {
				t.Helper()
				if code != own && (e != api.ErrMarker || !zero) {
					t.Errorf("%s({%x, %s}) = %d", name, code, brief(b), e)
				}
				if code == own && e == api.ErrMarker {
					t.Errorf("%s({%x, %s}) = %d", name, code, brief(b), e)
				}
			}
			h, e := headseg.ParseSize(s)
			wrong("ParseSize", 0xffa1, e, sameHeader(h, api.Header{}))
			p, e := headseg.ParseCoding(s)
			wrong("ParseCoding", 0xffa2, e, sameParams(p, api.Params{}))
			p, e = headseg.ParseQuant(s, api.Params{Levels: 3, Steps: []int{5}, Dead: 9})
			wrong("ParseQuant", 0xffa3, e, sameParams(p, api.Params{}))
			text, e := headseg.ParseComment(s)
			wrong("ParseComment", 0xffa4, e, text == "")
			tile, part, parts, bytes, e := headseg.ParseTile(s)
			wrong("ParseTile", 0xffb0, e, tile == 0 && part == 0 && parts == 0 && bytes == 0)
		}
	}
}

// drawnByte returns a number of a field of one byte; those at the ends are more frequent.
func drawnByte(source *rand.Rand) int {
	return []int{0, 1, 2, 15, 16, 128, 254, 255, source.IntN(256), source.IntN(256)}[source.IntN(10)]
}

// drawnCoding returns parameters whose fields fit into a segment, and any others.
func drawnCoding(source *rand.Rand) api.Params {
	flag := func() bool { return source.IntN(2) == 0 }
	p := api.Params{
		Kernel: api.Kernel(drawnByte(source)), Levels: drawnByte(source), Color: api.Transform(drawnByte(source)),
		BlockX: drawnByte(source), BlockY: drawnByte(source), Order: api.Order(drawnByte(source)), Layers: drawnByte(source),
		Mode:   api.Mode{Bypass: flag(), Restart: flag(), Reset: flag(), Causal: flag(), Symbols: flag()},
		Divide: flag(), Sync: flag(), Fence: flag(), Shift: drawnByte(source),
		Dead: extremes[source.IntN(len(extremes))],
	}
	for range source.IntN(1 + source.IntN(9)) {
		p.Precincts = append(p.Precincts, api.Point{X: source.IntN(16), Y: source.IntN(16)})
	}
	for range source.IntN(4) {
		p.Steps = append(p.Steps, extremes[source.IntN(len(extremes))])
	}
	return p
}

// codingModel follows P29.2.
func codingModel(p api.Params) (api.Segment, api.Errno) {
	var b []byte
	field := func(n int) bool {
		b = append(b, byte(n))
		return fits(n, 0, 255)
	}
	ok := field(int(p.Kernel)) && field(p.Levels) && field(int(p.Color)) && field(p.BlockX) && field(p.BlockY) && field(int(p.Order)) && field(p.Layers)
	sum := 0
	m := p.Mode
	for i, flag := range []bool{m.Bypass, m.Restart, m.Reset, m.Causal, m.Symbols, p.Divide, p.Sync, p.Fence} {
		if flag {
			sum += []int{1, 2, 4, 8, 16, 32, 64, 128}[i]
		}
	}
	ok = ok && field(sum) && field(p.Shift) && field(len(p.Precincts))
	for _, e := range p.Precincts {
		ok = ok && fits(e.X, 0, 15) && fits(e.Y, 0, 15) && field(e.X+16*e.Y)
	}
	if !ok {
		return api.Segment{}, api.ErrRange
	}
	return api.Segment{Code: 0xffa2, Payload: b}, api.OK
}

// codingOnly returns the fields that a segment Coding contains.
func codingOnly(p api.Params) api.Params {
	p.Steps, p.Dead = nil, 0
	return p
}

// expectCoding checks Coding against the definition, and reads it back.
func expectCoding(t *testing.T, p api.Params) api.Errno {
	t.Helper()
	want, wantError := codingModel(p)
	s, e := headseg.Coding(p)
	if !same(s, want) || e != wantError {
		t.Fatalf("Coding(%+v) = {%x, %s}, %d; expected {%x, %s}, %d", p, s.Code, brief(s.Payload), e, want.Code, brief(want.Payload), wantError)
	}
	if again, e := headseg.ParseCoding(s); wantError == api.OK && (e != api.OK || !sameParams(again, codingOnly(p))) {
		t.Fatalf("%+v is read back as %+v, %d", p, again, e)
	}
	return wantError
}

// P29.2, P29.7: each field at the ends of its range and past them
func TestCoding(t *testing.T) {
	source := rand.New(rand.NewPCG(29, 5))
	counts := map[api.Errno]int{}
	counts[expectCoding(t, api.Params{})]++
	for range 1000 {
		counts[expectCoding(t, drawnCoding(source))]++
	}
	if counts[api.OK] != 1001 {
		t.Errorf("Coding returned %v", counts)
	}
	for range 10 {
		for i := range 8 {
			for _, v := range extremes {
				p := drawnCoding(source)
				switch i {
				case 0:
					p.Kernel = api.Kernel(v)
				case 1:
					p.Color = api.Transform(v)
				case 2:
					p.Order = api.Order(v)
				default:
					*[]*int{&p.Levels, &p.BlockX, &p.BlockY, &p.Layers, &p.Shift}[i-3] = v
				}
				e := expectCoding(t, p)
				if (e == api.OK) != fits(v, 0, 255) {
					t.Fatalf("Coding with %d in a field = %d", v, e)
				}
				counts[e]++
			}
		}
	}
	atLeast(t, 20, counts, api.ErrRange)
}

// P29.2: all flags
func TestFlags(t *testing.T) {
	for sum := range 256 {
		bit := func(i int) bool { return sum&(1<<i) != 0 }
		p := api.Params{Mode: api.Mode{Bypass: bit(0), Restart: bit(1), Reset: bit(2), Causal: bit(3), Symbols: bit(4)}, Divide: bit(5), Sync: bit(6), Fence: bit(7)}
		expectCoding(t, p)
		if s, _ := headseg.Coding(p); len(s.Payload) != 10 || s.Payload[7] != byte(sum) {
			t.Errorf("the flags %b are written as %x", sum, s.Payload)
		}
	}
}

// P29.2: lists of precincts of all lengths, with exponents at the ends of their ranges and past them
func TestPrecincts(t *testing.T) {
	for _, n := range []int{0, 1, 2, 6, 254, 255, 256, 257, 511, 512, 65536} {
		want := api.OK
		if n > 255 {
			want = api.ErrRange
		}
		if e := expectCoding(t, api.Params{Precincts: slices.Repeat([]api.Point{{X: 1, Y: 2}}, n)}); e != want {
			t.Errorf("Coding with %d precincts = %d; expected %d", n, e, want)
		}
	}
	expectCoding(t, api.Params{Precincts: []api.Point{}})
	for _, v := range append([]int{-16, -15, 3, 14, 17, 240, 241}, extremes...) {
		for i := range 6 {
			p := api.Params{Precincts: []api.Point{{X: 1, Y: 2}, {X: 15, Y: 0}, {X: 0, Y: 15}}}
			if i%2 == 0 {
				p.Precincts[i/2].X = v
			} else {
				p.Precincts[i/2].Y = v
			}
			if e := expectCoding(t, p); (e == api.OK) != fits(v, 0, 15) {
				t.Errorf("Coding with the exponent %d = %d", v, e)
			}
		}
	}
	for x := range 16 {
		for y := range 16 {
			if e := expectCoding(t, api.Params{Precincts: []api.Point{{X: x, Y: y}, {X: y, Y: x}}}); e != api.OK {
				t.Errorf("Coding with the exponents %d and %d = %d", x, y, e)
			}
		}
	}
}

// parseCodingModel follows P29.2.
func parseCodingModel(s api.Segment) (p api.Params, e api.Errno) {
	b := s.Payload
	switch {
	case s.Code != 0xffa2:
		return p, api.ErrMarker
	case len(b) < 10 || len(b) < 10+int(b[9]):
		return p, api.ErrTruncated
	case len(b) > 10+int(b[9]):
		return p, api.ErrTrailing
	}
	f := b[7]
	p = api.Params{
		Kernel: api.Kernel(b[0]), Levels: int(b[1]), Color: api.Transform(b[2]), BlockX: int(b[3]), BlockY: int(b[4]), Order: api.Order(b[5]), Layers: int(b[6]),
		Mode:   api.Mode{Bypass: f&1 != 0, Restart: f&2 != 0, Reset: f&4 != 0, Causal: f&8 != 0, Symbols: f&16 != 0},
		Divide: f&32 != 0, Sync: f&64 != 0, Fence: f&128 != 0, Shift: int(b[8]),
	}
	for _, v := range b[10:] {
		p.Precincts = append(p.Precincts, api.Point{X: int(v & 15), Y: int(v >> 4)})
	}
	return p, api.OK
}

// expectParseCoding checks ParseCoding against the definition, and writes what it reads.
func expectParseCoding(t *testing.T, s api.Segment) api.Errno {
	t.Helper()
	want, wantError := parseCodingModel(s)
	p, e := headseg.ParseCoding(s)
	if !sameParams(p, want) || e != wantError {
		t.Fatalf("ParseCoding({%x, %s}) = %+v, %d; expected %+v, %d", s.Code, brief(s.Payload), p, e, want, wantError)
	}
	if again, e := headseg.Coding(p); wantError == api.OK && (e != api.OK || !same(again, s)) {
		t.Fatalf("what is read of {%x, %s} is written as {%x, %s}, %d", s.Code, brief(s.Payload), again.Code, brief(again.Payload), e)
	}
	return wantError
}

// P29.2, P29.8: payloads that end too early, too late, and with each byte changed, and any others
func TestParseCoding(t *testing.T) {
	source := rand.New(rand.NewPCG(29, 6))
	counts := map[api.Errno]int{}
	for range 100 {
		s, _ := codingModel(drawnCoding(source))
		around(source, s.Payload, func(b []byte) {
			counts[expectParseCoding(t, api.Segment{Code: marker.Coding, Payload: b})]++
		})
	}
	for n := range 256 {
		b := make([]byte, 10+n)
		b[9] = byte(n)
		for i := range n {
			b[10+i] = byte(source.Uint32())
		}
		for _, long := range [][]byte{b, b[:len(b)-1], append(slices.Clone(b), 0)} {
			counts[expectParseCoding(t, api.Segment{Code: marker.Coding, Payload: long})]++
		}
	}
	for range 5000 {
		b := make([]byte, source.IntN(20))
		for i := range b {
			b[i] = byte(source.Uint32())
		}
		if len(b) > 9 && source.IntN(2) == 0 {
			b[9] = byte(len(b) - 10)
		}
		counts[expectParseCoding(t, api.Segment{Code: marker.Coding, Payload: b})]++
	}
	atLeast(t, 20, counts, api.OK, api.ErrTruncated, api.ErrTrailing)
}

// quantModel follows P29.3.
func quantModel(p api.Params) (api.Segment, api.Errno) {
	ok := fits(p.Dead, 0, 255) && len(p.Steps) <= 255
	b := []byte{byte(p.Dead), byte(len(p.Steps))}
	for _, step := range p.Steps {
		ok = ok && fits(step, 1, 65536)
		b = append(b, byte((step-1)/256), byte(step-1))
	}
	if !ok {
		return api.Segment{}, api.ErrRange
	}
	return api.Segment{Code: 0xffa3, Payload: b}, api.OK
}

// expectQuant checks Quant against the definition, and reads it back into other parameters.
func expectQuant(t *testing.T, p, other api.Params) api.Errno {
	t.Helper()
	want, wantError := quantModel(p)
	s, e := headseg.Quant(p)
	if !same(s, want) || e != wantError {
		t.Fatalf("Quant(%+v) = {%x, %s}, %d; expected {%x, %s}, %d", p, s.Code, brief(s.Payload), e, want.Code, brief(want.Payload), wantError)
	}
	if wantError != api.OK {
		return wantError
	}
	read := other
	read.Steps, read.Dead = p.Steps, p.Dead
	if again, e := headseg.ParseQuant(s, other); e != api.OK || !sameParams(again, read) {
		t.Fatalf("%+v is read back as %+v, %d", read, again, e)
	}
	return api.OK
}

// P29.3, P29.7: the dead-zone parameter and the steps at the ends of their ranges and past them
func TestQuant(t *testing.T) {
	source := rand.New(rand.NewPCG(29, 7))
	for dead := -2; dead < 260; dead++ {
		if e := expectQuant(t, api.Params{Dead: dead, Steps: []int{1}}, drawnCoding(source)); (e == api.OK) != fits(dead, 0, 255) {
			t.Errorf("Quant with Dead %d = %d", dead, e)
		}
	}
	for _, v := range extremes {
		for _, steps := range [][]int{nil, {}, {1}, {65536, 1, 300}} {
			expectQuant(t, api.Params{Dead: v, Steps: steps}, drawnCoding(source))
		}
		for i := range 3 {
			p := drawnCoding(source)
			p.Dead, p.Steps = drawnByte(source), []int{7, 65536, 1}
			p.Steps[i] = v
			if e := expectQuant(t, p, drawnCoding(source)); (e == api.OK) != fits(v, 1, 65536) {
				t.Errorf("Quant with the step %d = %d", v, e)
			}
		}
	}
	for step := -1; step < 65540; step++ {
		if step < 600 || step > 65000 || step%97 == 0 {
			expectQuant(t, api.Params{Dead: 16, Steps: []int{step}}, api.Params{})
		}
	}
	for _, n := range []int{0, 1, 2, 16, 254, 255, 256, 257, 511, 512, 70000} {
		want := api.OK
		if n > 255 {
			want = api.ErrRange
		}
		if e := expectQuant(t, api.Params{Dead: 8, Steps: slices.Repeat([]int{1 + source.IntN(65536)}, n)}, drawnCoding(source)); e != want {
			t.Errorf("Quant with %d steps = %d; expected %d", n, e, want)
		}
	}
	// other fields do not matter
	p := api.Params{Kernel: -1, Levels: math.MinInt, BlockX: 300, Layers: math.MaxInt, Shift: -1, Precincts: slices.Repeat([]api.Point{{X: -1, Y: 99}}, 300), Steps: []int{3}, Dead: 4}
	if e := expectQuant(t, p, p); e != api.OK {
		t.Errorf("Quant(%+v) = %d", p, e)
	}
}

// expectParseQuant checks ParseQuant against P29.3, and writes what it reads.
func expectParseQuant(t *testing.T, s api.Segment, p api.Params) api.Errno {
	t.Helper()
	b, want, wantError := s.Payload, api.Params{}, api.OK
	switch {
	case s.Code != 0xffa3:
		wantError = api.ErrMarker
	case len(b) < 2 || len(b) < 2+2*int(b[1]):
		wantError = api.ErrTruncated
	case len(b) > 2+2*int(b[1]):
		wantError = api.ErrTrailing
	default:
		want = p
		want.Dead, want.Steps = int(b[0]), nil
		for i := 2; i < len(b); i += 2 {
			want.Steps = append(want.Steps, number(b[i:i+2])+1)
		}
	}
	read, e := headseg.ParseQuant(s, p)
	if !sameParams(read, want) || e != wantError {
		t.Fatalf("ParseQuant({%x, %s}, %+v) = %+v, %d; expected %+v, %d", s.Code, brief(b), p, read, e, want, wantError)
	}
	if again, e := headseg.Quant(read); wantError == api.OK && (e != api.OK || !same(again, s)) {
		t.Fatalf("what is read of {%x, %s} is written as {%x, %s}, %d", s.Code, brief(b), again.Code, brief(again.Payload), e)
	}
	return wantError
}

// P29.3, P29.8: payloads that end too early, too late, and with each byte changed
func TestParseQuant(t *testing.T) {
	source := rand.New(rand.NewPCG(29, 8))
	counts := map[api.Errno]int{}
	check := func(b []byte) {
		t.Helper()
		counts[expectParseQuant(t, api.Segment{Code: marker.Quant, Payload: b}, drawnCoding(source))]++
	}
	for n := range 256 {
		b := []byte{byte(drawnByte(source)), byte(n)}
		for range 2 * n {
			b = append(b, byte(source.Uint32()))
		}
		if n < 20 {
			around(source, b, check)
		}
		for _, long := range [][]byte{b, b[:len(b)-1], b[:max(0, len(b)-2)], append(slices.Clone(b), 0), append(slices.Clone(b), 0, 0)} {
			check(long)
		}
	}
	check(nil)
	check([]byte{})
	check(make([]byte, 70000))
	atLeast(t, 20, counts, api.OK, api.ErrTruncated, api.ErrTrailing)
}

// P29.4, P29.7, P29.8: comments of all kinds of lengths, which need not be text
func TestComment(t *testing.T) {
	source := rand.New(rand.NewPCG(29, 9))
	for _, n := range []int{0, 1, 2, 255, 256, 65531, 65532, 65533, 65534, 65535, 65536, 65537, 200000} {
		b := make([]byte, n)
		for i := range b {
			b[i] = byte(source.Uint32())
		}
		want, wantRead, wantError := api.Segment{Code: 0xffa4, Payload: b}, string(b), api.OK
		if n > 65533 {
			want, wantRead, wantError = api.Segment{}, "", api.ErrLimit
		}
		if s, e := headseg.Comment(string(b)); !same(s, want) || e != wantError {
			t.Errorf("Comment of %d bytes = {%x, %s}, %d", n, s.Code, brief(s.Payload), e)
		}
		if text, e := headseg.ParseComment(api.Segment{Code: marker.Comment, Payload: b}); text != wantRead || e != wantError {
			t.Errorf("ParseComment of %d bytes = %d bytes, %d", n, len(text), e)
		}
	}
	for _, text := range []string{"hi", "\x00", "\xff\xfe", "äöü\n", strings.Repeat("€", 21844)} {
		s, e := headseg.Comment(text)
		if again, readError := headseg.ParseComment(s); e != api.OK || readError != api.OK || again != text {
			t.Errorf("a comment of %d bytes is read back with %d bytes, %d, %d", len(text), len(again), e, readError)
		}
	}
	if text, e := headseg.ParseComment(api.Segment{Code: marker.Comment}); text != "" || e != api.OK {
		t.Errorf("ParseComment of no payload = %q, %d", text, e)
	}
}

// expectTile checks Tile against P29.5, and reads it back.
func expectTile(t *testing.T, n [4]int) api.Errno {
	t.Helper()
	var want api.Segment
	wantError := api.ErrRange
	if fits(n[0], 0, 65535) && fits(n[1], 0, 255) && fits(n[2], 0, 255) && fits(n[3], 0, 1<<32-1) {
		want, wantError = api.Segment{Code: 0xffb0, Payload: slices.Concat(digits(n[0], 2), digits(n[1], 1), digits(n[2], 1), digits(n[3], 4))}, api.OK
	}
	s, e := headseg.Tile(n[0], n[1], n[2], n[3])
	if !same(s, want) || e != wantError {
		t.Fatalf("Tile(%v) = {%x, %x}, %d; expected {%x, %x}, %d", n, s.Code, s.Payload, e, want.Code, want.Payload, wantError)
	}
	if wantError == api.OK {
		if tile, part, parts, size, e := headseg.ParseTile(s); [4]int{tile, part, parts, size} != n || e != api.OK {
			t.Fatalf("%v is read back as %d, %d, %d, %d, %d", n, tile, part, parts, size, e)
		}
	}
	return wantError
}

// P29.5, P29.7: numbers at the ends of their ranges and of the integers, and one past them
func TestTile(t *testing.T) {
	source := rand.New(rand.NewPCG(29, 10))
	counts := map[api.Errno]int{}
	for i := range 4 {
		for _, v := range extremes {
			n := [4]int{1, 2, 3, 4}
			n[i] = v
			e := expectTile(t, n)
			if (e == api.OK) != fits(v, 0, []int{65535, 255, 255, 1<<32 - 1}[i]) {
				t.Errorf("Tile(%v) = %d", n, e)
			}
			counts[e]++
		}
	}
	for range 20000 {
		var n [4]int
		for i := range n {
			n[i] = source.IntN(256)
			if source.IntN(4) == 0 {
				n[i] = extremes[source.IntN(len(extremes))]
			}
		}
		counts[expectTile(t, n)]++
	}
	atLeast(t, 100, counts, api.OK, api.ErrRange)
}

// P29.5, P29.8: payloads of all lengths
func TestParseTile(t *testing.T) {
	source := rand.New(rand.NewPCG(29, 11))
	check := func(b []byte) {
		t.Helper()
		want, wantError := [4]int{}, api.OK
		switch {
		case len(b) < 8:
			wantError = api.ErrTruncated
		case len(b) > 8:
			wantError = api.ErrTrailing
		default:
			want = [4]int{number(b[:2]), int(b[2]), int(b[3]), number(b[4:])}
		}
		tile, part, parts, size, e := headseg.ParseTile(api.Segment{Code: marker.Tile, Payload: b})
		if got := [4]int{tile, part, parts, size}; got != want || e != wantError {
			t.Fatalf("ParseTile(%x) = %v, %d; expected %v, %d", b, got, e, want, wantError)
		}
		if s, e := headseg.Tile(tile, part, parts, size); wantError == api.OK && (e != api.OK || !bytes.Equal(s.Payload, b)) {
			t.Fatalf("what is read of %x is written as %x, %d", b, s.Payload, e)
		}
	}
	check(nil)
	for range 500 {
		b := make([]byte, 8)
		for i := range b {
			b[i] = byte(drawnByte(source))
		}
		around(source, b, check)
	}
}

// lengthsModel follows P29.6.
func lengthsModel(code int, l []int) (segments []api.Segment, e api.Errno) {
	if code != 0xffa5 && code != 0xffb1 {
		return nil, api.ErrKind
	}
	rest := l
	for {
		part := rest[:min(16000, len(rest))]
		rest = rest[len(part):]
		b := []byte{byte(len(segments))}
		for _, n := range part {
			b = append(b, digits(n, 4)...)
		}
		segments = append(segments, api.Segment{Code: code, Payload: b})
		if len(rest) == 0 {
			break
		}
	}
	if len(segments) > 256 {
		return nil, api.ErrLimit
	}
	if slices.ContainsFunc(l, func(n int) bool { return !fits(n, 0, 1<<32-1) }) {
		return nil, api.ErrRange
	}
	return segments, api.OK
}

// list returns n lengths.
func list(source *rand.Rand, n int) []int {
	l := make([]int, n)
	for i := range l {
		l[i] = source.IntN(1 << (1 + i%32))
	}
	return l
}

// expectLengths checks Lengths against the definition, and reads it back.
func expectLengths(t *testing.T, code int, l []int) api.Errno {
	t.Helper()
	want, wantError := lengthsModel(code, l)
	s, e := headseg.Lengths(code, l)
	if !slices.EqualFunc(s, want, same) || e != wantError {
		t.Fatalf("Lengths(%x, %d lengths) = %d segments, %d; expected %d, %d", code, len(l), len(s), e, len(want), wantError)
	}
	if wantError == api.OK {
		if again, e := headseg.ParseLengths(s); e != api.OK || !slices.Equal(again, l) {
			t.Fatalf("%d lengths are read back as %d, %d", len(l), len(again), e)
		}
	}
	return wantError
}

// P29.6, P29.7: lists of all kinds of lengths, with all codes
func TestLengths(t *testing.T) {
	source := rand.New(rand.NewPCG(29, 12))
	for _, n := range []int{0, 1, 2, 3, 15998, 15999, 16000, 16001, 16002, 31999, 32000, 32001, 48000, 100000} {
		l := list(source, n)
		for _, code := range []int{marker.Index, marker.Lengths} {
			if e := expectLengths(t, code, l); e != api.OK {
				t.Errorf("Lengths(%x, %d lengths) = %d", code, n, e)
			}
			s, _ := headseg.Lengths(code, l)
			if want := max(1, (n+15999)/16000); len(s) != want {
				t.Errorf("%d lengths have %d segments; expected %d", n, len(s), want)
			}
		}
	}
	for _, code := range codes {
		for _, l := range [][]int{nil, {}, {1}, {-1}, {1 << 32}} {
			expectLengths(t, code, l)
		}
	}
	for _, n := range extremes {
		for _, at := range []int{0, 1, 15999, 16000, 16001, 33000} {
			l := list(source, 33001)
			l[at] = n
			if e := expectLengths(t, marker.Index, l); (e == api.OK) != fits(n, 0, 1<<32-1) {
				t.Errorf("Lengths with %d = %d", n, e)
			}
		}
	}
}

// P29.6: as many lengths as 256 segments hold, and one more, with whatever else is wrong
func TestMostLengths(t *testing.T) {
	l := list(rand.New(rand.NewPCG(29, 13)), 256*16000+1)
	if e := expectLengths(t, marker.Lengths, l[:256*16000]); e != api.OK {
		t.Errorf("Lengths of the longest list = %d", e)
	}
	if e := expectLengths(t, marker.Lengths, l[:255*16000+1]); e != api.OK {
		t.Errorf("Lengths of 256 segments = %d", e)
	}
	if e := expectLengths(t, marker.Index, l); e != api.ErrLimit {
		t.Errorf("Lengths of too many = %d", e)
	}
	l[5] = -1
	for _, c := range []struct {
		code, n int
		e       api.Errno
	}{
		{marker.Tile, len(l), api.ErrKind},
		{marker.Index, len(l), api.ErrLimit},
		{marker.Index, len(l) - 1, api.ErrRange},
		{-1, 9, api.ErrKind},
	} {
		if e := expectLengths(t, c.code, l[:c.n]); e != c.e {
			t.Errorf("Lengths(%x, %d lengths) = %d; expected %d", c.code, c.n, e, c.e)
		}
	}
}

// parseLengthsModel follows P29.6: the segments of a list are those that Lengths has for the lengths in them.
func parseLengthsModel(s []api.Segment) ([]int, api.Errno) {
	var l []int
	odd := false
	for i := range s {
		if s[i].Code != 0xffa5 && s[i].Code != 0xffb1 || s[i].Code != s[0].Code {
			return nil, api.ErrMarker
		}
		b := s[i].Payload
		if len(b)%4 != 1 {
			odd = true
			continue
		}
		for k := 1; k < len(b); k += 4 {
			l = append(l, number(b[k:k+4]))
		}
	}
	if odd || len(s) == 0 {
		return nil, api.ErrSyntax
	}
	if again, e := lengthsModel(s[0].Code, l); e != api.OK || !slices.EqualFunc(again, s, same) {
		return nil, api.ErrSyntax
	}
	return l, api.OK
}

// expectParseLengths checks ParseLengths against the definition, and writes what it reads.
func expectParseLengths(t *testing.T, s []api.Segment) api.Errno {
	t.Helper()
	want, wantError := parseLengthsModel(s)
	l, e := headseg.ParseLengths(s)
	if !slices.Equal(l, want) || e != wantError {
		t.Fatalf("ParseLengths of %d segments = %d lengths, %d; expected %d, %d", len(s), len(l), e, len(want), wantError)
	}
	if wantError == api.OK {
		if again, e := headseg.Lengths(s[0].Code, l); e != api.OK || !slices.EqualFunc(again, s, same) {
			t.Fatalf("what is read of %d segments is written as %d, %d", len(s), len(again), e)
		}
	}
	return wantError
}

// cloned returns segments that share no memory with others.
func cloned(s []api.Segment) []api.Segment {
	c := slices.Clone(s)
	for i := range c {
		c[i].Payload = slices.Clone(c[i].Payload)
	}
	return c
}

// P29.6, P29.8: segments that are those of no list
func TestParseLengths(t *testing.T) {
	source := rand.New(rand.NewPCG(29, 14))
	counts := map[api.Errno]int{}
	expect := func(s []api.Segment, want api.Errno) {
		t.Helper()
		e := expectParseLengths(t, s)
		if e != want {
			t.Errorf("ParseLengths of %d segments = %d; expected %d", len(s), e, want)
		}
		counts[e]++
	}
	expect(nil, api.ErrSyntax)
	expect([]api.Segment{}, api.ErrSyntax)
	for _, n := range []int{0, 1, 5, 16000, 16001, 32000, 40000} {
		s, _ := headseg.Lengths(marker.Index, list(source, n))
		expect(s, api.OK)
		last := len(s) - 1
		for i := range s {
			for _, number := range []byte{0, 1, 2, 255, byte(i) + 1, byte(i) - 1} {
				c := cloned(s)
				c[i].Payload[0] = number
				expect(c, map[bool]api.Errno{true: api.OK, false: api.ErrSyntax}[number == byte(i)])
			}
			for _, cut := range []int{1, 2, 3, 4, 5, 8, 64000, 64001} {
				c := cloned(s)
				b := c[i].Payload
				if len(b) < cut {
					continue
				}
				c[i].Payload = b[: len(b)-cut : len(b)-cut]
				valid := cut%4 == 0 && i == last && (len(c[i].Payload) > 1 || i == 0)
				expect(c, map[bool]api.Errno{true: api.OK, false: api.ErrSyntax}[valid])
			}
			for more := 1; more < 10; more++ {
				c := cloned(s)
				c[i].Payload = append(c[i].Payload, make([]byte, more)...)
				valid := more%4 == 0 && i == last && len(c[i].Payload) <= 64001
				expect(c, map[bool]api.Errno{true: api.OK, false: api.ErrSyntax}[valid])
			}
			for _, code := range codes {
				c := cloned(s)
				c[i].Code = code
				valid := code == marker.Index || code == marker.Lengths && len(s) == 1
				expect(c, map[bool]api.Errno{true: api.OK, false: api.ErrMarker}[valid])
				// and with a wrong number in each of the segments
				for k := range c {
					c[k].Payload[0]++
				}
				expect(c, map[bool]api.Errno{true: api.ErrSyntax, false: api.ErrMarker}[valid])
			}
		}
		expect(append(cloned(s), api.Segment{Code: marker.Index}), api.ErrSyntax)
		expect(append(cloned(s), api.Segment{Code: marker.Index, Payload: []byte{byte(last + 1)}}), api.ErrSyntax)
		full := n > 0 && n%16000 == 0
		expect(append(cloned(s), api.Segment{Code: marker.Index, Payload: []byte{byte(last + 1), 0, 0, 0, 9}}), map[bool]api.Errno{true: api.OK, false: api.ErrSyntax}[full])
		expect(slices.Concat(s, s), api.ErrSyntax)
		if last > 0 {
			expect(append([]api.Segment{s[last]}, s[:last]...), api.ErrSyntax)
			expect(s[1:], api.ErrSyntax)
		}
	}
	atLeast(t, 20, counts, api.OK, api.ErrMarker, api.ErrSyntax)
}

// P29.6: more segments than numbers, and payloads longer than those of segments
func TestTooManySegments(t *testing.T) {
	s, e := headseg.Lengths(marker.Lengths, make([]int, 256*16000))
	if e != api.OK || len(s) != 256 {
		t.Fatalf("Lengths = %d segments, %d", len(s), e)
	}
	if e := expectParseLengths(t, s); e != api.OK {
		t.Errorf("ParseLengths of 256 segments = %d", e)
	}
	more := append(slices.Clone(s), api.Segment{Code: marker.Lengths, Payload: []byte{0, 0, 0, 0, 0}})
	if e := expectParseLengths(t, more); e != api.ErrSyntax {
		t.Errorf("ParseLengths of 257 segments = %d", e)
	}
	for _, n := range []int{64005, 65533, 1 << 20, 1<<20 + 1} {
		for _, number := range []byte{0, 1} {
			b := make([]byte, n)
			b[0] = number
			if e := expectParseLengths(t, []api.Segment{{Code: marker.Index, Payload: b}}); e != api.ErrSyntax {
				t.Errorf("ParseLengths of a payload of %d bytes = %d", n, e)
			}
		}
	}
}

// Any segments.
func TestAnyLengths(t *testing.T) {
	source := rand.New(rand.NewPCG(29, 15))
	counts := map[api.Errno]int{}
	for range 20000 {
		var s []api.Segment
		for i := range source.IntN(4) {
			b := make([]byte, []int{0, 1, 2, 3, 4, 5, 6, 9, 13}[source.IntN(9)])
			if len(b) > 0 {
				b[0] = byte(i + source.IntN(2)*source.IntN(2))
			}
			code := []int{marker.Index, marker.Index, marker.Index, marker.Lengths, marker.Lengths, marker.Tile}[source.IntN(6)]
			s = append(s, api.Segment{Code: code, Payload: b})
		}
		counts[expectParseLengths(t, s)]++
	}
	atLeast(t, 100, counts, api.OK, api.ErrMarker, api.ErrSyntax)
}

// behind returns elements with others behind them, within the capacity.
func behind[T any](l []T, other T) []T {
	return append(slices.Clone(l), other, other, other, other)[:len(l)]
}

// expectBehind checks that elements, and the others behind them, are as they were.
func expectBehind[T comparable](t *testing.T, l, want []T, other T) {
	t.Helper()
	if !slices.Equal(l, want) || !slices.Equal(l[len(l):len(l)+4], []T{other, other, other, other}) {
		t.Fatalf("an argument was changed: %v", l[:len(l)+4])
	}
}

// spoil overwrites elements, and all behind them.
func spoil[T any](l []T, other T) {
	l = l[:cap(l)]
	for i := range l {
		l[i] = other
	}
}

// Rule R6: the writing functions neither change nor keep their arguments
func TestWritersMemory(t *testing.T) {
	source := rand.New(rand.NewPCG(29, 16))
	for range 500 {
		h := drawnHeader(source)
		none := api.Component{Depth: 99}
		g := h
		g.Components = behind(h.Components, none)
		s, e := headseg.Size(g)
		expectBehind(t, g.Components, h.Components, none)
		spoil(g.Components, none)
		if e != api.OK || !bytes.Equal(s.Payload, sizeBytes(h)) {
			t.Fatalf("the result of Size changes with its argument")
		}

		p := drawnCoding(source)
		p.Dead, p.Steps = 3, list(source, source.IntN(5))
		for i := range p.Steps {
			p.Steps[i]++
		}
		q := p
		q.Precincts, q.Steps = behind(p.Precincts, api.Point{X: -9}), behind(p.Steps, -9)
		wantCoding, _ := codingModel(p)
		wantQuant, _ := quantModel(p)
		coding, _ := headseg.Coding(q)
		quant, _ := headseg.Quant(q)
		expectBehind(t, q.Precincts, p.Precincts, api.Point{X: -9})
		expectBehind(t, q.Steps, p.Steps, -9)
		spoil(q.Precincts, api.Point{X: 1})
		spoil(q.Steps, 1)
		if !same(coding, wantCoding) || !same(quant, wantQuant) {
			t.Fatalf("the results of Coding and Quant change with their argument")
		}

		l := list(source, source.IntN(9))
		if source.IntN(50) == 0 {
			l = list(source, 33000)
		}
		want, _ := lengthsModel(marker.Index, l)
		given := behind(l, -9)
		segments, _ := headseg.Lengths(marker.Index, given)
		expectBehind(t, given, l, -9)
		spoil(given, 7)
		for i := range segments {
			if !slices.EqualFunc(segments[i:], want[i:], same) {
				t.Fatalf("the segments from %d on share memory with others, or with the list", i)
			}
			spoil(segments[i].Payload, 0xEE)
		}
	}
}

// Rule R6: the parsing functions neither change nor keep their arguments
func TestParsersMemory(t *testing.T) {
	source := rand.New(rand.NewPCG(29, 17))
	for range 500 {
		h := drawnHeader(source)
		b := sizeBytes(h)
		given := behind(b, 0xEE)
		read, _ := headseg.ParseSize(api.Segment{Code: marker.Size, Payload: given})
		expectBehind(t, given, b, 0xEE)
		spoil(given, 0x11)
		if !sameHeader(read, h) {
			t.Fatalf("the result of ParseSize changes with its argument")
		}

		p := codingOnly(drawnCoding(source))
		s, _ := codingModel(p)
		given = behind(s.Payload, 0xEE)
		coded, _ := headseg.ParseCoding(api.Segment{Code: marker.Coding, Payload: given})
		expectBehind(t, given, s.Payload, 0xEE)
		spoil(given, 0x11)
		if !sameParams(coded, p) {
			t.Fatalf("the result of ParseCoding changes with its argument")
		}

		expectParsedQuantAlone(t, p)

		given = behind([]byte("text"), 0xEE)
		text, _ := headseg.ParseComment(api.Segment{Code: marker.Comment, Payload: given})
		expectBehind(t, given, []byte("text"), 0xEE)
		spoil(given, 0x11)
		if text != "text" {
			t.Fatalf("the result of ParseComment changes with its argument")
		}

		l := list(source, 1+source.IntN(9))
		segments, _ := lengthsModel(marker.Lengths, l)
		given = behind(segments[0].Payload, 0xEE)
		list, _ := headseg.ParseLengths([]api.Segment{{Code: marker.Lengths, Payload: given}})
		expectBehind(t, given, segments[0].Payload, 0xEE)
		spoil(given, 0x11)
		if !slices.Equal(list, l) {
			t.Fatalf("the result of ParseLengths changes with its argument")
		}
	}
}

// expectParsedQuantAlone checks that ParseQuant shares no memory with the parameters that it gets.
func expectParsedQuantAlone(t *testing.T, p api.Params) {
	t.Helper()
	old := []int{7, 8, 9}
	given := behind([]byte{16, 2, 0, 0, 0, 0xFF}, 0xEE)
	q := p
	q.Precincts, q.Steps = behind(p.Precincts, api.Point{X: -9}), behind(old, -9)
	read, e := headseg.ParseQuant(api.Segment{Code: marker.Quant, Payload: given}, q)
	expectBehind(t, given, []byte{16, 2, 0, 0, 0, 0xFF}, 0xEE)
	expectBehind(t, q.Precincts, p.Precincts, api.Point{X: -9})
	expectBehind(t, q.Steps, old, -9)
	spoil(given, 0x11)
	spoil(q.Precincts, api.Point{X: -5})
	spoil(q.Steps, -5)
	want := p
	want.Dead, want.Steps = 16, []int{1, 256}
	if e != api.OK || !sameParams(read, want) {
		t.Fatalf("ParseQuant = %+v, %d; expected %+v", read, e, want)
	}
}

// Rules R3, R5: with an error all other results are zero values; without precincts and steps there are none
func TestZeroValues(t *testing.T) {
	short := []byte{1, 2}
	if h, e := headseg.ParseSize(api.Segment{Code: marker.Size, Payload: short}); e != api.ErrTruncated || !reflect.DeepEqual(h, api.Header{}) {
		t.Errorf("ParseSize = %+v, %d", h, e)
	}
	if h, e := headseg.ParseSize(api.Segment{Code: marker.Size, Payload: append(make([]byte, 12), 1, 7, 1, 1)}); e != api.ErrHeader || !reflect.DeepEqual(h, api.Header{}) {
		t.Errorf("ParseSize = %+v, %d", h, e)
	}
	for _, b := range [][]byte{short, append([]byte{2, 1, 0, 2, 2, 1, 3, 65, 0, 1, 35}, 0)} {
		if p, e := headseg.ParseCoding(api.Segment{Code: marker.Coding, Payload: b}); e == api.OK || !reflect.DeepEqual(p, api.Params{}) {
			t.Errorf("ParseCoding(%x) = %+v, %d", b, p, e)
		}
	}
	for _, b := range [][]byte{{1}, {1, 1, 0}, {1, 1, 0, 0, 0}} {
		if p, e := headseg.ParseQuant(api.Segment{Code: marker.Quant, Payload: b}, api.Params{Levels: 2, Steps: []int{3}}); e == api.OK || !reflect.DeepEqual(p, api.Params{}) {
			t.Errorf("ParseQuant(%x) = %+v, %d", b, p, e)
		}
	}
	if p, e := headseg.ParseQuant(api.Segment{Code: marker.Quant, Payload: []byte{9, 0}}, api.Params{Levels: 2, Steps: []int{3}}); e != api.OK || len(p.Steps) != 0 || p.Dead != 9 || p.Levels != 2 {
		t.Errorf("ParseQuant without steps = %+v, %d", p, e)
	}
	if p, e := headseg.ParseCoding(api.Segment{Code: marker.Coding, Payload: make([]byte, 10)}); e != api.OK || len(p.Precincts) != 0 || len(p.Steps) != 0 || p.Dead != 0 {
		t.Errorf("ParseCoding without precincts = %+v, %d", p, e)
	}
}

// The examples of the chapter.
func TestExamples(t *testing.T) {
	expect := func(name string, s api.Segment, e api.Errno, code int, payload ...byte) {
		t.Helper()
		if e != api.OK || !same(s, api.Segment{Code: code, Payload: payload}) {
			t.Errorf("%s = {%x, %x}, %d", name, s.Code, s.Payload, e)
		}
	}
	h := api.Header{Area: api.Rect{X1: 8, Y1: 5}, TileW: 4, TileH: 4, Components: []api.Component{{Depth: 8, DX: 1, DY: 1}}}
	s, e := headseg.Size(h)
	expect("Size", s, e, marker.Size, 0, 0, 0, 0, 0, 8, 0, 5, 0, 4, 0, 4, 1, 7, 1, 1)

	p := api.Params{Kernel: api.LeGall, Levels: 1, Color: api.NoColor, BlockX: 2, BlockY: 2, Order: api.LRCP, Layers: 3, Mode: api.Mode{Bypass: true}, Sync: true, Precincts: []api.Point{{X: 3, Y: 3}, {X: 3, Y: 2}}}
	s, e = headseg.Coding(p)
	expect("Coding", s, e, marker.Coding, 2, 1, 0, 2, 2, 1, 3, 0x41, 0, 2, 0x33, 0x23)

	s, e = headseg.Quant(api.Params{Dead: 16, Steps: []int{1, 256}})
	expect("Quant", s, e, marker.Quant, 0x10, 2, 0, 0, 0, 0xFF)

	s, e = headseg.Tile(1, 0, 2, 300)
	expect("Tile", s, e, marker.Tile, 0, 1, 0, 2, 0, 0, 1, 0x2C)
	if _, _, _, _, e := headseg.ParseTile(api.Segment{Code: marker.Tile, Payload: s.Payload[:7]}); e != api.ErrTruncated {
		t.Errorf("ParseTile without the last byte = %d", e)
	}
	if _, _, _, _, e := headseg.ParseTile(api.Segment{Code: marker.Comment, Payload: s.Payload}); e != api.ErrMarker {
		t.Errorf("ParseTile of a comment = %d", e)
	}

	l, e := headseg.Lengths(marker.Index, nil)
	if e != api.OK || len(l) != 1 || !same(l[0], api.Segment{Code: marker.Index, Payload: []byte{0}}) {
		t.Errorf("Lengths of the empty list = %v, %d", l, e)
	}
	l, e = headseg.Lengths(marker.Lengths, make([]int, 16001))
	if e != api.OK || len(l) != 2 || len(l[0].Payload) != 64001 || len(l[1].Payload) != 5 || l[1].Payload[0] != 1 {
		t.Errorf("Lengths of 16001 lengths = %d segments, %d", len(l), e)
	}
}
