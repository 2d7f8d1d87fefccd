package decoder

import (
	"squelch/api"
	"squelch/frame"
	"squelch/lapped"
	"squelch/quant"
)

// mouth says what is heard; the state that it embeds is, each time, the one behind that.
type mouth struct {
	api.Synth
}

// say answers the state and the samples that one sound leaves, if the state ahead of it may be.
func (m *mouth) say(sound func() (api.Pcm, api.Errno)) (api.Synth, api.Pcm, api.Errno) {
	if Check(m.Synth) != api.OK {
		return api.Synth{}, api.Pcm{}, api.ErrArg
	}
	p, e := sound()
	if e != api.OK {
		return api.Synth{}, api.Pcm{}, e
	}
	return m.Synth, p, api.OK
}

func (m *mouth) stepOrRest(b []byte) (api.Pcm, api.Errno) {
	if len(b) == 0 {
		return m.rest()
	}
	return m.step(b)
}

func (m *mouth) step(b []byte) (api.Pcm, api.Errno) {
	f, e := frame.Read(b, m.L)
	if e != api.OK {
		return api.Pcm{}, e
	}
	if f.Kind == api.Sid {
		m.Hush = true
		return m.noise(f.L)
	}
	// What changes of levels lead to is told only where the levels ahead were a frame's.
	if f.Kind == api.Inter && !m.Live {
		return api.Pcm{}, api.ErrState
	}
	return m.talk(f)
}

func (m *mouth) rest() (api.Pcm, api.Errno) {
	if m.Hush {
		return m.noise(m.L)
	}
	m.Live = false
	return m.sound(api.Spec{})
}

func (m *mouth) fade(by int) (api.Pcm, api.Errno) {
	if by < 1 {
		return api.Pcm{}, api.ErrArg
	}
	return m.noise(lower(m.L, by))
}

func (m *mouth) talk(f api.Frame) (api.Pcm, api.Errno) {
	x, e := quant.Great(f.Q, f.L)
	if e != api.OK {
		return api.Pcm{}, e
	}
	m.L, m.Live, m.Hush = f.L, true, false
	return m.sound(x)
}

// noise leaves Hush as it is: a Sid's is silence, a lost frame's is not.
func (m *mouth) noise(l api.Levels) (api.Pcm, api.Errno) {
	x, seed, e := quant.Noise(m.Seed, l)
	if e != api.OK {
		return api.Pcm{}, e
	}
	m.L, m.Live, m.Seed = l, false, seed
	return m.sound(x)
}

// sound laps the numbers x over the tail.
func (m *mouth) sound(x api.Spec) (api.Pcm, api.Errno) {
	w, e := lapped.Inverse(x)
	if e != api.OK {
		return api.Pcm{}, e
	}
	p, left, e := lapped.Lap(m.T, w)
	if e != api.OK {
		return api.Pcm{}, e
	}
	m.T = left
	return p, api.OK
}

// lower answers l, each level by less, 0 at least.
func lower(l api.Levels, by int) api.Levels {
	for b, level := range l {
		l[b] = max(0, level-by)
	}
	return l
}
