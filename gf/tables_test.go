package gf

import "testing"

// The tables against the rule that they were written out from: a power is the one before it, doubled.
func TestTables(t *testing.T) {
	n := 1
	for exponent := range order {
		if power(exponent) != n || power(exponent+order) != n {
			t.Fatalf("P2: power(%d) = %d, power(%d) = %d, want %d", exponent, power(exponent), exponent+order, power(exponent+order), n)
		}
		if logarithm(n) != exponent {
			t.Fatalf("P2: logarithm(%d) = %d, want %d", n, logarithm(n), exponent)
		}
		n *= 2
		if n > 255 {
			n ^= 0b1_0001_1101
		}
	}
	if n != 1 {
		t.Fatalf("the power of %d is %d, want 1", order, n)
	}
}
