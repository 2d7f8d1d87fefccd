package frame

import (
	"bytes"

	"squelch/api"
	"squelch/bits"
	"squelch/coder"
)

// reader reads a frame's symbols from where its decoder stands.
type reader struct {
	api.Dec
}

// open answers the reader of b's bytes, if a frame may have as many.
func open(b []byte) (*reader, api.Errno) {
	if len(b) == 0 || len(b) > api.MaxFrame {
		return nil, api.ErrForm
	}
	d, e := coder.Start(bits.Of(b))
	if e != api.OK {
		return nil, api.ErrForm
	}
	return &reader{d}, api.OK
}

// next reads a frame's number by the next symbol; symbol 0 stands for first.
func (r *reader) next(table api.Freq, number *int, first int) api.Errno {
	behind, symbol, e := coder.Next(r.Dec, table)
	if e != api.OK {
		return api.ErrForm
	}
	r.Dec = behind
	*number = first + symbol
	return api.OK
}

func (r *reader) kind() (int, api.Errno) {
	kind := 0
	if e := throughKind(&kind, r.next); e != api.OK {
		return 0, e
	}
	return kind, api.OK
}

// hasJust tells whether the bytes that are read are those of f. Others lead to f, too: what stands behind its last
// symbol is not read.
func (r *reader) hasJust(f api.Frame, prev api.Levels) bool {
	b, e := Write(f, prev)
	return e == api.OK && bytes.Equal(b, r.In.B)
}
