package wasm

// What a module's bytes begin with.
const magic = "\x00asm\x01\x00\x00\x00"

// The sections, by the byte that they begin with.
const (
	secAny     = 0
	secTypes   = 1
	secImports = 2
	secFuncs   = 3
	secTable   = 4
	secMemory  = 5
	secGlobals = 6
	secExports = 7
	secStart   = 8
	secElems   = 9
	secBodies  = 10
	secDatas   = 11
)

// Limits that this form alone has.
const (
	mostResults = 8    // results of a type
	mostRows    = 32   // rows of locals
	mostTargets = 64   // targets of a table of branches, but the last one
	mostDatas   = 32   // datas of a module
	mostData    = 4096 // bytes of a data
	mostAlign   = 3    // the number that an access tells of its place
)

// Bytes that are no operators.
const (
	byteFunc  = 0x60 // begins a type of functions
	byteEmpty = 0x40 // the type of a block without any
	byteF32   = 0x7d
	byteF64   = 0x7c
	leastText = 32 // the least byte of a name
	mostText  = 126
)

// What a name may stand for.
const (
	ofFunc   = 0
	ofTable  = 1
	ofMemory = 2
	ofGlobal = 3
)

// Operators that have something behind them, or stand for something else.
const (
	opTrap     = 0x00
	opNop      = 0x01
	opBlock    = 0x02
	opLoop     = 0x03
	opIf       = 0x04
	opElse     = 0x05
	opEnd      = 0x0b
	opBr       = 0x0c
	opBrIf     = 0x0d
	opBrTable  = 0x0e
	opReturn   = 0x0f
	opCall     = 0x10
	opDrop     = 0x1a
	opSelect   = 0x1b
	opLocalGet = 0x20
	opLocalSet = 0x21
	opLocalTee = 0x22
	opGlobGet  = 0x23
	opGlobSet  = 0x24
	opSize     = 0x3f
	opGrow     = 0x40
	opConst32  = 0x41
	opConst64  = 0x42
)
