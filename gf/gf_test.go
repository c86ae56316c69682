package gf_test

import (
	"bytes"
	"math"
	"testing"

	"weave/api"
	"weave/gf"
)

var outside = []int{math.MinInt, math.MinInt + 255, -1 << 32, -256, -255, -2, -1, 256, 257, 511, 512, 1 << 32, 1<<32 + 1, math.MaxInt - 1, math.MaxInt}

// polynomialProduct is P2 by its words, without the tables.
func polynomialProduct(a, b int) int {
	n := 0
	for i := range 8 {
		if b>>i&1 == 1 {
			n ^= a << i
		}
	}
	for i := 14; i >= 8; i-- {
		if n>>i&1 == 1 {
			n ^= 0b1_0001_1101 << (i - 8)
		}
	}
	return n
}

func TestMulExamples(t *testing.T) {
	for _, k := range [][3]int{
		{2, 128, 29}, {3, 7, 9}, {255, 255, 226},
		{0, 0, 0}, {0, 1, 0}, {1, 0, 0}, {0, 255, 0}, {255, 0, 0},
		{1, 1, 1}, {1, 255, 255}, {255, 1, 255}, {2, 142, 1}, {128, 128, 19},
	} {
		if n, e := gf.Mul(k[0], k[1]); n != k[2] || e != api.OK {
			t.Errorf("P2: Mul(%d, %d) = %d, %d, want %d, OK", k[0], k[1], n, e, k[2])
		}
	}
}

func TestMulIsTheProductOfPolynomials(t *testing.T) {
	for a := range 256 {
		for b := range 256 {
			want := polynomialProduct(a, b)
			if n, e := gf.Mul(a, b); n != want || e != api.OK {
				t.Fatalf("P2: Mul(%d, %d) = %d, %d, want %d, OK", a, b, n, e, want)
			}
		}
	}
}

func TestMulOutside(t *testing.T) {
	refused := func(a, b int) {
		if n, e := gf.Mul(a, b); n != 0 || e != api.ErrArg {
			t.Errorf("P2, P1: Mul(%d, %d) = %d, %d, want 0, ErrArg", a, b, n, e)
		}
	}
	for _, wrong := range outside {
		for _, right := range []int{0, 1, 77, 255} {
			refused(wrong, right)
			refused(right, wrong)
		}
		for _, other := range outside {
			refused(wrong, other)
		}
	}
}

func TestInvExamples(t *testing.T) {
	for _, k := range [][2]int{{1, 1}, {2, 142}, {142, 2}, {3, 244}, {244, 3}, {255, 253}} {
		if n, e := gf.Inv(k[0]); n != k[1] || e != api.OK {
			t.Errorf("P2: Inv(%d) = %d, %d, want %d, OK", k[0], n, e, k[1])
		}
	}
}

func TestInvTimesItsNumberIsOne(t *testing.T) {
	for a := 1; a <= 255; a++ {
		n, e := gf.Inv(a)
		if e != api.OK || n < 1 || n > 255 || polynomialProduct(a, n) != 1 {
			t.Errorf("P2: Inv(%d) = %d, %d", a, n, e)
		}
	}
}

func TestInvOutside(t *testing.T) {
	for _, a := range append([]int{0}, outside...) {
		if n, e := gf.Inv(a); n != 0 || e != api.ErrArg {
			t.Errorf("P2, P1: Inv(%d) = %d, %d, want 0, ErrArg", a, n, e)
		}
	}
}

func TestAddExamples(t *testing.T) {
	for _, k := range []struct {
		row   []byte
		c     int
		other []byte
		want  []byte
	}{
		{[]byte{1, 2, 3}, 3, []byte{2, 2, 2}, []byte{7, 4, 5}},
		{[]byte{1, 2, 3}, 0, []byte{9, 0, 255}, []byte{1, 2, 3}},
		{[]byte{1, 2, 3}, 1, []byte{9, 0, 255}, []byte{8, 2, 252}},
		{[]byte{0, 255, 0}, 255, []byte{255, 255, 0}, []byte{226, 29, 0}},
		{[]byte{5}, 2, []byte{128}, []byte{24}},
		{nil, 7, nil, nil},
		{[]byte{}, 0, nil, nil},
		{nil, 255, []byte{}, nil},
		{[]byte{}, 1, []byte{}, nil},
	} {
		if b, e := gf.Add(k.row, k.c, k.other); !bytes.Equal(b, k.want) || e != api.OK {
			t.Errorf("P3: Add(%v, %d, %v) = %v, %d, want %v, OK", k.row, k.c, k.other, b, e, k.want)
		}
	}
}

func TestAddAtAllNumbers(t *testing.T) {
	row, other := make([]byte, 1024), make([]byte, 1024)
	for i := range row {
		row[i], other[i] = byte(i*7+i>>8), byte(i)
	}
	for c := range 256 {
		b, e := gf.Add(row, c, other)
		if len(b) != len(row) || e != api.OK {
			t.Fatalf("P3: Add of %d places with %d: %d places, %d", len(row), c, len(b), e)
		}
		for i := range b {
			want := row[i] ^ byte(polynomialProduct(c, int(other[i])))
			if b[i] != want {
				t.Fatalf("P3: Add with %d at place %d: %d, want %d", c, i, b[i], want)
			}
		}
	}
}

func TestAddOfARowToItself(t *testing.T) {
	row := []byte{0, 1, 2, 128, 255}
	b, e := gf.Add(row, 1, row)
	if !bytes.Equal(b, make([]byte, 5)) || e != api.OK || !bytes.Equal(row, []byte{0, 1, 2, 128, 255}) {
		t.Errorf("P3, P1: Add of a row to itself = %v, %d; the row is %v", b, e, row)
	}
}

func TestAddWrong(t *testing.T) {
	refused := func(row []byte, c int, other []byte) {
		if b, e := gf.Add(row, c, other); b != nil || e != api.ErrArg {
			t.Errorf("P3, P1: Add(%d places, %d, %d places) = %v, %d, want nil, ErrArg", len(row), c, len(other), b, e)
		}
	}
	for _, c := range outside {
		refused(nil, c, nil)
		refused(make([]byte, 3), c, make([]byte, 3))
		refused(make([]byte, 3), c, make([]byte, 2))
	}
	for _, c := range []int{0, 1, 2, 255} {
		refused(nil, c, make([]byte, 1))
		refused(make([]byte, 1), c, nil)
		refused(make([]byte, 3), c, make([]byte, 2))
		refused(make([]byte, 2), c, make([]byte, 3))
		refused(make([]byte, 2, 3), c, make([]byte, 3))
		refused(make([]byte, 1024), c, make([]byte, 1023))
	}
}

// behind gives a piece of a longer list, so that a write behind the piece is seen in the whole.
func behind(whole []byte) []byte {
	return whole[2:5]
}

func TestAddLeavesItsArgumentsAlone(t *testing.T) {
	first, second := []byte{10, 11, 12, 13, 14, 15, 16, 17}, []byte{20, 21, 22, 23, 24, 25, 26, 27}
	rows, others := bytes.Clone(first), bytes.Clone(second)
	for _, c := range []int{-1, 0, 1, 2, 255, 256} {
		b, _ := gf.Add(behind(rows), c, behind(others))
		if !bytes.Equal(rows, first) || !bytes.Equal(others, second) {
			t.Fatalf("P1: Add with %d writes into its arguments: %v, %v", c, rows, others)
		}
		b = b[:cap(b)]
		for i := range b {
			b[i] = 99
		}
		if !bytes.Equal(rows, first) || !bytes.Equal(others, second) {
			t.Fatalf("P1: what Add with %d answers shares memory with its arguments: %v, %v", c, rows, others)
		}
	}
	gf.Add(behind(rows), 3, others[2:6])
	if !bytes.Equal(rows, first) || !bytes.Equal(others, second) {
		t.Fatalf("P1: Add of rows of different lengths writes into them: %v, %v", rows, others)
	}
}

func TestAddAnswersHangOnNothingElse(t *testing.T) {
	row, other := []byte{1, 2, 3}, []byte{2, 2, 2}
	early, _ := gf.Add(row, 3, other)
	late, _ := gf.Add(row, 3, other)
	clear(early[:cap(early)])
	if !bytes.Equal(late, []byte{7, 4, 5}) {
		t.Errorf("P1: two answers of Add share memory: %v", late)
	}
	if again, e := gf.Add(row, 3, other); !bytes.Equal(again, []byte{7, 4, 5}) || e != api.OK {
		t.Errorf("P1: Add hangs on what was done to its answer: %v, %d", again, e)
	}
	clear(row)
	clear(other)
	if !bytes.Equal(late, []byte{7, 4, 5}) {
		t.Errorf("P1: an answer of Add hangs on its arguments: %v", late)
	}
}
