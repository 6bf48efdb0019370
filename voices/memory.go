package voices

import "lanthorn/api"

// memorySize is how many bytes the memory has.
const memorySize = 1 << 16

// memory is the memory, or a saved row of words, which lie as in it; its addresses come round by themselves, as they are words.
type memory []uint8

func (m memory) word(addr uint16) uint16 { return uint16(m[addr]) | uint16(m[addr+1])<<8 }

func (m memory) putWord(addr, w uint16) { m[addr], m[addr+1] = uint8(w), uint8(w>>8) }

// block is the bytes of a block of samples.
func (m memory) block(addr uint16) [api.BlockSize]uint8 {
	var b [api.BlockSize]uint8
	for i := range b {
		b[i] = m[addr+uint16(i)]
	}
	return b
}
