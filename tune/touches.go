package tune

import "lanthorn/api"

// touches is how many reads and writes an instruction has behind its own bytes.
func touches(c api.Note) int {
	switch c.Name {
	case "PUSH", "POP":
		return 1
	case "CALL", "PCALL", "RET":
		return 2
	case "RETI":
		return 3
	case "TCALL":
		return 4
	case "BRK":
		return 5
	case "JMP":
		if c.Form == "a" { // the address itself, at which nothing is read
			return 0
		}
		return 2
	}
	n := 0
	for i := range len(c.Form) {
		n += reachedBy(c.Form[i])
	}
	if changes(c.Name) && c.Form != "" {
		n += reachedBy(c.Form[0])
	}
	return n
}

// reachedBy is how many accesses it takes to read or write an operand of a letter once, those that lead to it with it.
func reachedBy(letter byte) int {
	switch letter {
	case 'd', 'x', 'y', 'i', 'j', '+', 'a', 'p', 'q', 'b', 'n', '/':
		return 1
	case 'D':
		return 2
	case 'l', 'm':
		return 3
	}
	return 0
}

// changes tells whether a name reads and writes its first operand. (Where that is always a register, or none, it makes no odds.)
func changes(name string) bool {
	switch name {
	case "MOV", "MOVW", "CMP", "CMPW", "BBS", "BBC", "CBNE":
		return false
	}
	return true
}
