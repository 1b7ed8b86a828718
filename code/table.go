package code

// The table's rows, in its order: what stands behind the byte of a code.
const (
	noRow         = 0 // there is no such code
	rowAlone      = 1 // nothing
	rowByte       = 2 // a byte
	rowSignedByte = 3 // a byte with a sign
	rowSignedPair = 4 // two bytes, a number with a sign
	rowPair       = 5 // two bytes, a number
	rowWay        = 6 // two bytes, the way
	rowTwoBytes   = 7 // a byte, and a byte with a sign
)

// rowOf is the row of a code.
func rowOf(c int) int {
	switch c {
	case 0, 1, 2, 3, 4, 5, 6, 7, 8, 9, 10, 46, 47, 50, 79, 80, 83, 87, 89, 90, 95,
		96, 97, 100, 101, 104, 105, 108, 109, 112, 113, 116, 117,
		120, 121, 122, 123, 124, 125, 126, 127, 128, 129, 130, 131,
		133, 136, 145, 146, 147, 148, 172, 173, 176, 177, 190, 191:
		return rowAlone
	case 21, 22, 25, 54, 55, 58, 188:
		return rowByte
	case 16:
		return rowSignedByte
	case 17:
		return rowSignedPair
	case 19, 178, 179, 180, 181, 182, 183, 184, 185, 187, 189, 192, 193:
		return rowPair
	case 153, 154, 155, 156, 157, 158, 159, 160, 161, 162, 163, 164, 165, 166, 167, 198, 199:
		return rowWay
	case 132:
		return rowTwoBytes
	}
	return noRow
}
