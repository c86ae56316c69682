// Package gf: a field of 256 numbers: see DOC.md.
package gf

import "weave/api"

// Mul multiplies two numbers (P2).
func Mul(a int, b int) (int, api.Errno) {
	if !isNumber(a) || !isNumber(b) {
		return 0, api.ErrArg
	}
	return product(a, b), api.OK
}

// Inv gives the number that a number times is 1 (P2).
func Inv(a int) (int, api.Errno) {
	if !isNumber(a) || a == 0 {
		return 0, api.ErrArg
	}
	return power(order - logarithm(a)), api.OK
}

// Add adds a multiple of a row to another (P3).
func Add(row []byte, c int, other []byte) ([]byte, api.Errno) {
	if !isNumber(c) || len(row) != len(other) {
		return nil, api.ErrArg
	}
	sum := make([]byte, len(row))
	for i := range sum {
		sum[i] = row[i] ^ byte(product(c, int(other[i])))
	}
	return sum, api.OK
}

func isNumber(n int) bool {
	return 0 <= n && n <= 255
}

// product is for numbers of the field alone.
func product(a int, b int) int {
	if a == 0 || b == 0 {
		return 0 // 0 is no power of 2 and so has no logarithm
	}
	return power(logarithm(a) + logarithm(b))
}
