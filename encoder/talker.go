package encoder

import (
	"squelch/api"
	"squelch/decoder"
	"squelch/frame"
	"squelch/quant"
)

// talker makes frames of samples; the state that it embeds is, each time, the one behind them.
type talker struct {
	api.Talk
}

// step answers the bytes of the samples p.
func (t *talker) step(p api.Pcm) ([]byte, api.Errno) {
	// Each step asks anew: what is counted may have gone beyond its bound in the one ahead.
	if Check(t.Talk) != api.OK {
		return nil, api.ErrArg
	}
	x, l, e := measure(t.Prev, p)
	if e != api.OK {
		return nil, e
	}
	loud := isLoud(l)
	b, e := t.send(x, l, loud)
	if e != api.OK {
		return nil, e
	}
	if e := t.hear(b); e != api.OK {
		return nil, e
	}
	t.Prev = p
	t.hang(loud)
	return b, api.OK
}

func (t *talker) send(x api.Spec, l api.Levels, loud bool) ([]byte, api.Errno) {
	if loud || t.Hang > 0 {
		return t.talk(x, l)
	}
	return t.rest(l)
}

// talk answers a frame's bytes.
func (t *talker) talk(x api.Spec, l api.Levels) ([]byte, api.Errno) {
	q, _, e := quant.Small(x, l)
	if e != api.OK {
		return nil, e
	}
	f := api.Frame{Kind: t.kind(l), L: l, Q: q}
	t.Sent, t.Quiet = t.Sent+1, 0
	return frame.Write(f, t.Local.L)
}

// rest answers what silence sounds like, each so often, and else no bytes.
func (t *talker) rest(l api.Levels) ([]byte, api.Errno) {
	due := isDue(t.Quiet)
	t.Sent, t.Quiet = 0, t.Quiet+1
	if !due {
		return nil, api.OK
	}
	return frame.Write(api.Frame{Kind: api.Sid, L: l}, t.Local.L)
}

// kind is Inter only where one who heard all can go on from the levels ahead.
func (t *talker) kind(l api.Levels) int {
	if !t.Local.Live || isDue(t.Sent) || !frame.Near(l, t.Local.L) {
		return api.Intra
	}
	return api.Inter
}

// hear makes Local what one who heard all has behind the bytes b.
func (t *talker) hear(b []byte) api.Errno {
	var e api.Errno
	if len(b) == 0 {
		t.Local, _, e = decoder.Rest(t.Local)
	} else {
		t.Local, _, e = decoder.Step(t.Local, b)
	}
	return e
}

// hang counts how many frames are still sent behind a loud one, so that its end is heard.
func (t *talker) hang(loud bool) {
	if loud {
		t.Hang = api.HangFor
	} else {
		t.Hang = max(0, t.Hang-1)
	}
}

// isDue tells whether what is sent each Fresh-th time is due behind n frames.
func isDue(n int) bool { return n%api.Fresh == 0 }
