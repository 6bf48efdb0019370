package voices

import (
	"lanthorn/api"
	"lanthorn/brr"
	"lanthorn/shape"
)

// Noise at first, and the first number that is none.
const (
	firstNoise = 0x4000
	noiseEnd   = 0x8000
)

// next makes the next sample.
func (v *Voices) next(ram memory) sides {
	v.number++
	if shape.Beats(v.regs[flagsAt]&noiseRate, v.number) {
		v.noise = shape.Noise(v.noise)
	}
	v.order(ram)
	var mix, toEcho sides
	said := 0
	for k := range voiceCount {
		said = v.turn(ram, k, said)
		loud := v.regs.loud(k)
		mix.add(said, loud)
		if v.regs.has(inEchoAt, k) {
			toEcho.add(said, loud)
		}
	}
	return v.heard(mix, v.passEcho(ram, toEcho))
}

// order lets voices begin, lets them go, and stills them, as they were told.
func (v *Voices) order(ram memory) {
	for k := range voiceCount {
		c := &v.voices[k]
		if v.begin>>k&1 != 0 {
			c.come(ram, ram.word(v.regs.entry(k)), [aheadCount]int16{})
			c.place, c.Shape = 0, shape.On()
			v.regs.begun(k)
		}
		if v.regs.has(letGoAt, k) {
			c.Shape = shape.Off(c.Shape)
		}
		if v.regs[flagsAt]&allStill != 0 {
			c.still()
		}
	}
	v.begin = 0
}

// turn is a voice's turn at a sample: what it says, behind what the voice ahead says.
func (v *Voices) turn(ram memory, k, ahead int) int {
	c := &v.voices[k]
	step, plays := v.regs.bent(k, ahead), v.plays(k)
	c.Shape = shape.Step(c.Shape, v.regs.form(k), v.number)
	said := c.says(plays)
	v.regs.tell(k, c.Level, said)
	if c.move(step) {
		v.goOn(ram, k)
	}
	return said
}

// plays is what a voice plays.
func (v *Voices) plays(k int) int {
	if v.regs.has(noiseAt, k) {
		return int(int16(v.noise << 1))
	}
	return v.voices[k].tone()
}

// goOn brings a voice to what is behind its block.
func (v *Voices) goOn(ram memory, k int) {
	c := &v.voices[k]
	head := brr.Read(c.head)
	if !head.End {
		c.come(ram, c.block+api.BlockSize, c.last())
		return
	}
	v.regs.end(k)
	if !head.Loop {
		c.still()
	}
	c.come(ram, ram.word(v.regs.entry(k)+2), c.last())
}

// passEcho lets the sample pass the echo, which is told: what is to be in the echo is laid into the memory.
func (v *Voices) passEcho(ram memory, mix sides) sides {
	addr := uint16(v.regs[echoPageAt])<<8 + v.echo.place
	v.echo.hear(ram, addr)
	s := v.echo.sound(&v.regs)
	if v.regs[flagsAt]&echoStays == 0 {
		for side, x := range mix {
			x = clamp(x + times(s[side], v.regs[feedbackAt]))
			ram.putWord(addr+2*uint16(side), uint16(x))
		}
	}
	v.echo.move(v.regs[lengthAt])
	return s
}

// heard is a sample as it comes out, of a mix and an echo.
func (v *Voices) heard(mix, echo sides) sides {
	var out sides
	if v.regs[flagsAt]&unheard != 0 {
		return out
	}
	for side := range out {
		by := v.regs.own(side)
		out[side] = clamp(times(mix[side], by[mixLoudAt]) + times(echo[side], by[echoLoudAt]))
	}
	return out
}
