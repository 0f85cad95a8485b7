package spec

// The operators that are neither an access nor one of numbers.
const (
	opTrap     = 0x00
	opNop      = 0x01
	opBlock    = 0x02
	opLoop     = 0x03
	opIf       = 0x04
	opBr       = 0x0c
	opBrIf     = 0x0d
	opBrTable  = 0x0e
	opReturn   = 0x0f
	opCall     = 0x10
	opDrop     = 0x1a
	opSelect   = 0x1b
	opLocalGet = 0x20
	opLocalSet = 0x21
	opLocalTee = 0x22
	opGlobGet  = 0x23
	opGlobSet  = 0x24
	opSize     = 0x3f
	opGrow     = 0x40
	opConst32  = 0x41
	opConst64  = 0x42
)
