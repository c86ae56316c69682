package gf

import "math/bits"

// order: the powers of 2 are all numbers but 0, and come round again behind so many.
const order = 255

// degree: the powers of 2 below this one are single bits, which no division has touched.
const degree = 8

// powers holds the powers of 2 from that of degree on; those below are a shift.
var powers = [order - degree]byte{
	29, 58, 116, 232, 205, 135, 19, 38, 76, 152, 45, 90, 180, 117, 234, 201,
	143, 3, 6, 12, 24, 48, 96, 192, 157, 39, 78, 156, 37, 74, 148, 53,
	106, 212, 181, 119, 238, 193, 159, 35, 70, 140, 5, 10, 20, 40, 80, 160,
	93, 186, 105, 210, 185, 111, 222, 161, 95, 190, 97, 194, 153, 47, 94, 188,
	101, 202, 137, 15, 30, 60, 120, 240, 253, 231, 211, 187, 107, 214, 177, 127,
	254, 225, 223, 163, 91, 182, 113, 226, 217, 175, 67, 134, 17, 34, 68, 136,
	13, 26, 52, 104, 208, 189, 103, 206, 129, 31, 62, 124, 248, 237, 199, 147,
	59, 118, 236, 197, 151, 51, 102, 204, 133, 23, 46, 92, 184, 109, 218, 169,
	79, 158, 33, 66, 132, 21, 42, 84, 168, 77, 154, 41, 82, 164, 85, 170,
	73, 146, 57, 114, 228, 213, 183, 115, 230, 209, 191, 99, 198, 145, 63, 126,
	252, 229, 215, 179, 123, 246, 241, 255, 227, 219, 171, 75, 150, 49, 98, 196,
	149, 55, 110, 220, 165, 87, 174, 65, 130, 25, 50, 100, 200, 141, 7, 14,
	28, 56, 112, 224, 221, 167, 83, 166, 81, 162, 89, 178, 121, 242, 249, 239,
	195, 155, 43, 86, 172, 69, 138, 9, 18, 36, 72, 144, 61, 122, 244, 245,
	247, 243, 251, 235, 203, 139, 11, 22, 44, 88, 176, 125, 250, 233, 207, 131,
	27, 54, 108, 216, 173, 71, 142,
}

// oddLogarithms holds the logarithms of 1, 3, 5 and so on; that of an even number is one more than that of its half.
var oddLogarithms = [128]byte{
	0, 25, 50, 198, 223, 238, 104, 75, 100, 14, 141, 129, 193, 248, 8, 113,
	138, 47, 36, 33, 147, 218, 18, 69, 181, 125, 39, 185, 154, 120, 228, 166,
	191, 98, 221, 253, 152, 179, 145, 136, 208, 206, 150, 189, 210, 92, 56, 64,
	66, 163, 72, 110, 58, 84, 133, 61, 94, 159, 21, 43, 212, 172, 243, 87,
	112, 247, 128, 13, 74, 237, 197, 24, 165, 119, 184, 124, 68, 217, 32, 46,
	63, 91, 188, 205, 135, 178, 252, 97, 86, 171, 42, 158, 60, 83, 109, 162,
	45, 216, 123, 118, 23, 236, 12, 246, 161, 82, 157, 170, 96, 177, 204, 90,
	89, 176, 169, 81, 245, 235, 117, 215, 174, 233, 231, 232, 214, 234, 80, 175,
}

// power gives 2 to the exponent, which is 0 or more.
func power(exponent int) int {
	exponent %= order
	if exponent < degree {
		return 1 << exponent
	}
	return int(powers[exponent-degree])
}

// logarithm gives the exponent below order whose power is n, which is from 1 to 255.
func logarithm(n int) int {
	halvings := bits.TrailingZeros(uint(n))
	odd := n >> halvings
	// Below order without a remainder taken: the power of order is 1, and no number's double is 1 without a division.
	return int(oddLogarithms[odd/2]) + halvings
}
