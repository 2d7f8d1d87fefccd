package wire

import (
	"strings"

	"squelch/api"
	"squelch/bits"
)

const (
	kindBits = 4
	byteBits = 8
	lowest   = 32  // the first rune that a name may have
	rubOut   = 127 // one behind it that it may not
)

// numbers are a message's, in the order of its bits.
type numbers [7]*int

func numbersOf(m *api.Msg) numbers {
	return numbers{&m.Group, &m.From, &m.To, &m.Tid, &m.Epoch, &m.A, &m.B}
}

// each has each of m's numbers done with as do says.
func each(m *api.Msg, do func(n *int)) {
	for _, n := range numbersOf(m) {
		do(n)
	}
}

func mayHaveName(kind int) bool {
	return kind == api.JoinM || kind == api.TakenM || kind == api.GrantM
}

func isOfName(r rune) bool { return r >= lowest && r != rubOut }

// stands tells whether s begins with r: a range over a text tells fffd of a byte that is no UTF-8, too.
func stands(s string, r rune) bool { return strings.HasPrefix(s, string(r)) }

// pieces are the bits of m, which may be.
func pieces(m api.Msg) []api.Bits {
	kind, _ := bits.Put(api.Bits{}, uint64(m.Kind), kindBits)
	l := []api.Bits{kind}
	each(&m, func(n *int) { l = append(l, code(*n)) })
	return append(l, code(len(m.Name)), bits.Of([]byte(m.Name)), code(len(m.Data)), bits.Of(m.Data))
}

// code is the code of n, which must have one.
func code(n int) api.Bits {
	b, _ := bits.PutCode(api.Bits{}, uint64(n))
	return b
}

// reader reads bits from a place on; it has ended as soon as what is asked for is not there.
type reader struct {
	b     api.Bits
	at    int
	ended bool
}

func (r *reader) message() api.Msg {
	m := api.Msg{Kind: r.number(kindBits)}
	each(&m, func(n *int) { *n = r.code() })
	m.Name = string(r.bytes())
	m.Data = r.bytes()
	return m
}

// isFilled tells whether nothing is left but noughts up to a whole byte.
func (r *reader) isFilled() bool {
	left := r.b.N - r.at
	return left < byteBits && r.number(left) == 0
}

func (r *reader) number(width int) int {
	v, e := bits.Get(r.b, r.at, width)
	return r.took(v, r.at+width, e)
}

func (r *reader) code() int {
	v, next, e := bits.GetCode(r.b, r.at)
	return r.took(v, next, e)
}

// bytes reads how many there are, and as many: where that is more than are there, it ends with these.
func (r *reader) bytes() []byte {
	var l []byte
	for n := r.code(); n > 0 && !r.ended; n-- {
		l = append(l, byte(r.number(byteBits)))
	}
	return l
}

// took goes on behind what was read.
func (r *reader) took(v uint64, next int, e api.Errno) int {
	if e != api.OK {
		r.ended = true
		return 0
	}
	r.at = next
	return int(v)
}
