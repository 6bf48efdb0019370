package voices

import "lanthorn/api"

// registerCount is how many registers there are, ownCount how many of them lie from a voice's first one to the next voice's.
const (
	registerCount = 128
	ownCount      = 16
)

// A voice's own registers, as places behind its first one.
const (
	loudAt    = 0 // left, and right behind it
	stepAt    = 2 // two bytes
	sampleAt  = 4
	attackAt  = 5
	sustainAt = 6
	gainAt    = 7
	levelAt   = 8 // this one and the next are the chip's
	saidAt    = 9
)

// The registers of all voices; some have one more for the right, or one a weight, each a voice's registers behind the other.
const (
	feedbackAt  = 0x0d
	weightsAt   = 0x0f
	mixLoudAt   = 0x0c
	bendAt      = 0x2d
	echoLoudAt  = 0x2c
	noiseAt     = 0x3d
	beginAt     = 0x4c
	inEchoAt    = 0x4d
	letGoAt     = 0x5c
	directoryAt = 0x5d
	flagsAt     = 0x6c
	echoPageAt  = 0x6d
	endedAt     = 0x7c
	lengthAt    = 0x7d
)

// The flags.
const (
	allStill  = 0x80
	unheard   = 0x40
	echoStays = 0x20
	noiseRate = 0x1f
)

// The bits of a step that the upper one of its bytes has, and the greatest step.
const (
	upperStep = 0x3f
	mostStep  = 0x3fff
)

// registers are all of them.
type registers [registerCount]uint8

// own are a voice's registers, and what stands behind them.
func (r *registers) own(k int) []uint8 { return r[k*ownCount:] }

// has tells whether a voice's bit is set in a register.
func (r *registers) has(at, k int) bool { return r[at]>>k&1 != 0 }

// end sets a voice's bit of those that came to an end; begun clears it.
func (r *registers) end(k int) { r[endedAt] |= 1 << k }

func (r *registers) begun(k int) { r[endedAt] &^= 1 << k }

// step is a voice's step, if it does not bend.
func (r *registers) step(k int) int {
	own := r.own(k)
	return int(own[stepAt]) + int(own[stepAt+1]&upperStep)<<8
}

// bent is a voice's step, the voice ahead saying something.
func (r *registers) bent(k, ahead int) int {
	step := r.step(k)
	if k == 0 || !r.has(bendAt, k) {
		return step
	}
	return max(0, min(step+step*(ahead>>5)>>10, mostStep))
}

// form is what a voice's shape goes by.
func (r *registers) form(k int) api.Form {
	own := r.own(k)
	return api.Form{Attack: own[attackAt], Sustain: own[sustainAt], Gain: own[gainAt]}
}

// entry is where a voice's entry of the directory stands.
func (r *registers) entry(k int) uint16 {
	return uint16(r[directoryAt])<<8 + 4*uint16(r.own(k)[sampleAt])
}

// tell lays what a voice's registers say of it: its level, and what it says.
func (r *registers) tell(k, level, said int) {
	own := r.own(k)
	own[levelAt], own[saidAt] = uint8(level>>4), uint8(said>>8)
}

// loud is how loud a voice is on either side.
func (r *registers) loud(k int) [sideCount]uint8 {
	own := r.own(k)
	return [...]uint8{own[loudAt], own[loudAt+1]}
}
