package reach

import "lanthorn/api"

// cut is a number as an address: its lower 24 bits.
func cut(addr uint32) uint32 { return addr & 0xffffff }

// crossed tells whether two addresses are of unlike pages.
func crossed(a, b uint32) bool { return a>>8 != b>>8 }

// within is a place behind which its bank begins anew.
func within(addr uint32) api.Place { return api.Place{Addr: addr, Bank: true} }

// across is a place behind which the next bank begins.
func across(addr uint32) api.Place { return api.Place{Addr: cut(addr)} }
