package blockenc

import (
	"slices"
	"testing"

	"wavelet/api"
)

// P17.1: the values of a block have too few symbols for the limit, so that only symbols that stand for no block reach it.
func TestLimit(t *testing.T) {
	for _, c := range []struct {
		bytes int
		want  api.Errno
	}{{65534, api.OK}, {65535, api.OK}, {65536, api.ErrLimit}, {65537, api.ErrLimit}, {70000, api.ErrLimit}} {
		passes := make([][]api.Symbol, 11)
		passes[10] = slices.Repeat([]api.Symbol{{Context: -1, Bit: 1}}, 8*c.bytes) // a raw pass
		got, e := code(passes, 5, api.Mode{Bypass: true})
		switch {
		case e != c.want:
			t.Errorf("%d bytes: %d", c.bytes, e)
		case e == api.OK && (got.Planes != 5 || len(got.Data) != c.bytes):
			t.Errorf("%d bytes are %d bytes of %d planes", c.bytes, len(got.Data), got.Planes)
		case e != api.OK && (got.Planes != 0 || len(got.Passes) != 0 || len(got.Data) != 0):
			t.Errorf("%d bytes: there is a block beside the error", c.bytes)
		}
	}
}
