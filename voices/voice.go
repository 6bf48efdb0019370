package voices

import (
	"lanthorn/api"
	"lanthorn/brr"
)

// voiceCount is how many voices there are.
const voiceCount = 8

// A line is the last samples of the block ahead, and those of a block.
const (
	aheadCount = 2
	lineCount  = aheadCount + api.BlockLen
)

// How a voice's place is cut: its upper bits say which sample it is, of the lower ones those above fineAt how far it is to the next one.
const (
	sampleBits = 12
	fineAt     = 4
	fineEnd    = 1 << (sampleBits - fineAt)
	blockEnd   = api.BlockLen << sampleBits
)

// voice is one of the voices: how loud it is, and where it plays.
type voice struct {
	api.Shape
	block uint16 // its address
	head  uint8  // the block's, as it was when the voice came to it
	place uint16
	line  [lineCount]int16
}

// still lets a voice say nothing till it begins again.
func (c *voice) still() { c.Shape = api.Shape{Phase: api.PhaseRelease} }

// come brings a voice to a block, behind two samples.
func (c *voice) come(ram memory, addr uint16, behind [aheadCount]int16) {
	block := ram.block(addr)
	samples, _ := brr.Decode(block[:], behind[1], behind[0]) // a block's bytes are as many as it asks for
	c.block, c.head = addr, block[0]
	copy(c.line[:], behind[:])
	copy(c.line[aheadCount:], samples)
}

// last are the line's last samples, behind which the next block comes.
func (c *voice) last() [aheadCount]int16 { return [aheadCount]int16(c.line[lineCount-aheadCount:]) }

// tone is the block's sample at the voice's place, between those that stand around it.
func (c *voice) tone() int {
	const whole = fineEnd * fineEnd
	f := int(c.place>>fineAt) % fineEnd
	first, third := (fineEnd-f)*(fineEnd-f)/2, f*f/2
	second := whole - first - third
	l := c.line[c.place>>sampleBits:]
	return (int(l[0])*first + int(l[1])*second + int(l[2])*third) >> 16
}

// says is what a voice says that plays something.
func (c *voice) says(plays int) int { return plays * c.Level >> 11 }

// move lets a voice's place go on by a step; true: it is beyond the block, and comes round.
func (c *voice) move(step int) bool {
	place := int(c.place) + step
	c.place = uint16(place % blockEnd)
	return place >= blockEnd
}

// canBe tells whether a voice may come to stand so.
func (c *voice) canBe() bool { return c.Phase <= api.PhaseSustain && c.Level <= api.MaxLevel }
