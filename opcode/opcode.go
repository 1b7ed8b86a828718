// Package opcode names the codes of the stack code's instructions. What they ask of types the chapter of layer 8 says, what they do that of layer 12.
package opcode

// What pushes a thing that the instruction tells.
const (
	Nop      = 0 // it doesn't, but does nothing
	Null     = 1
	FirstInt = 2 // the int -1; from here to LastInt they are in order
	LastInt  = 8
	Long0    = 9
	Long1    = 10
	Byte     = 16
	Short    = 17
	Constant = 19
)

// What pushes a local, or pops into one.
const (
	LoadInt   = 21
	LoadLong  = 22
	LoadRef   = 25
	StoreInt  = 54
	StoreLong = 55
	StoreRef  = 58
	Count     = 132 // adds to a local
)

// What pushes an element of an array, or pops into one.
const (
	GetInt  = 46
	GetLong = 47
	GetRef  = 50
	PutInt  = 79
	PutLong = 80
	PutRef  = 83
)

// What turns the uppermost ones about.
const (
	Pop       = 87
	Double    = 89
	DoubleLow = 90 // lays the uppermost one below the second, too
	Swap      = 95
)

// What computes stands from FirstComputes to LastComputes; but Count, among them, doesn't use the stack.
const (
	FirstComputes = 96
	LastComputes  = 148

	Sum          = 96 // of two ints
	QuotientInt  = 108
	QuotientLong = 109
	RestInt      = 112
	RestLong     = 113
)

// What leads.
const (
	FirstIfZero = 153 // of an int and 0
	LastIfZero  = 158
	FirstIfInt  = 159 // of two ints
	LastIfInt   = 164
	IfSame      = 165
	IfOther     = 166
	Goto        = 167
	IfNull      = 198
	IfThing     = 199
)

// What gives back.
const (
	ReturnInt  = 172
	ReturnLong = 173
	ReturnRef  = 176
	Return     = 177
)

// Fields and methods.
const (
	GetStatic   = 178
	PutStatic   = 179
	GetField    = 180
	PutField    = 181
	CallVirtual = 182
	CallJust    = 183 // just the method that the names lead to
	CallStatic  = 184
	CallIface   = 185
)

// Things: made, measured, thrown, told by their types.
const (
	New        = 187
	NewNumbers = 188 // an array of ints (A: ArrayOfInts) or longs (ArrayOfLongs)
	NewRefs    = 189
	Length     = 190
	Throw      = 191
	Cast       = 192
	Is         = 193
)

// The arrays that NewNumbers makes.
const (
	ArrayOfInts  = 10
	ArrayOfLongs = 11
)
