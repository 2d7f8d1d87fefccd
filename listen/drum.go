package listen

import (
	"squelch/api"
	"squelch/decoder"
	"squelch/frame"
	"squelch/jitter"
)

const (
	fadeEach = 16
	fadeMost = 255
)

// drum sounds what comes; the ear that it embeds is, each time, the one behind that.
type drum struct {
	api.Ear
}

// tick answers the samples of the next turn, and what came in it, if the ear ahead of it may be.
func (d *drum) tick() (api.Pcm, int, api.Errno) {
	if Check(d.Ear) != api.OK {
		return api.Pcm{}, 0, api.ErrArg
	}
	var p api.Pcm
	j, what, b, _ := jitter.Pull(d.J) // The ear may be, and so may what waits.
	d.J = j
	switch what {
	case api.Comes, api.Lost:
		p = d.hear(b)
	case api.Ended:
		d.Ear = fresh(d.Epoch, d.From, j)
	}
	return p, what, api.OK
}

// hear answers what is heard of a frame's bytes, or of none, which are no frame.
func (d *drum) hear(b []byte) api.Pcm {
	s, p, errno := decoder.Step(d.S, b)
	if errno == api.OK && (d.On || isIntra(b)) {
		d.S, d.On, d.Miss = s, true, 0
		return p
	}
	d.Miss++
	if !d.On {
		return api.Pcm{}
	}
	return d.cover()
}

// cover answers what is heard where nothing came: on in silence the same noise, and in talk one that is less loud each time.
func (d *drum) cover() (p api.Pcm) {
	if d.S.Hush {
		d.S, p, _ = decoder.Rest(d.S)
	} else {
		d.S, p, _ = decoder.Fade(d.S, min(fadeEach*d.Miss, fadeMost))
	}
	return p
}

func isIntra(b []byte) bool {
	kind, errno := frame.Kind(b)
	return errno == api.OK && kind == api.Intra
}

// fresh is an ear that heard nothing yet.
func fresh(epoch, from int, j api.Jitter) api.Ear {
	return api.Ear{Epoch: epoch, From: from, J: j, S: decoder.Start()}
}

// own is e with packets of its own, so that nobody else's bytes are in what is answered; e may be.
func own(e api.Ear) api.Ear {
	e.J, _, _ = jitter.Put(e.J) // Put answers what is new, even of no packets.
	return e
}

// areNumbers tells whether each of l is 0 to 2^40.
func areNumbers(l ...int) bool {
	for _, n := range l {
		if n < 0 || n > maxNumber {
			return false
		}
	}
	return true
}
