package codec_test

import (
	"bytes"
	"math/rand"
	"slices"
	"testing"

	"weave/api"
	"weave/codec"
)

// field is the field by its words, without package gf: all products, and of each number but 0 the inverse.
type field struct {
	products [256][256]byte
	inverses [256]byte
}

func newField() *field {
	f := &field{}
	for a := range 256 {
		for b := range 256 {
			n := 0
			for i := range 8 {
				n ^= a << i * (b >> i & 1)
			}
			for i := 14; i >= 8; i-- {
				n ^= 0b1_0001_1101 << (i - 8) * (n >> i & 1)
			}
			f.products[a][b] = byte(n)
			if n == 1 {
				f.inverses[a] = byte(b)
			}
		}
	}
	return f
}

var words = newField()

// blockOf is the block of the data by its words.
func blockOf(data [][]byte, m int) [][]byte {
	k := len(data)
	block := copied(data)
	for i := range m {
		shard := make([]byte, len(data[0]))
		for j := range k {
			products := &words.products[words.inverses[(k+i)^j]]
			for at := range shard {
				shard[at] ^= products[data[j][at]]
			}
		}
		block = append(block, shard)
	}
	return block
}

func copied(lists [][]byte) [][]byte {
	out := make([][]byte, len(lists))
	for i := range lists {
		out[i] = bytes.Clone(lists[i])
	}
	return out
}

func drawnShards(r *rand.Rand, count int, length int) [][]byte {
	out := make([][]byte, count)
	for i := range out {
		out[i] = make([]byte, length)
		r.Read(out[i])
	}
	return out
}

// drawnHave is true of just as many shards as are asked for.
func drawnHave(r *rand.Rand, total int, count int) []bool {
	have := make([]bool, total)
	for _, i := range r.Perm(total)[:count] {
		have[i] = true
	}
	return have
}

// onlyHad puts nothing, or noise of any length, where have is false.
func onlyHad(r *rand.Rand, block [][]byte, have []bool) [][]byte {
	out := copied(block)
	for i := range out {
		if !have[i] {
			out[i] = nil
			if r.Intn(2) == 1 {
				out[i] = drawnShards(r, 1, r.Intn(2*len(block[i])+2))[0]
			}
		}
	}
	return out
}

func equal(a, b [][]byte) bool {
	return slices.EqualFunc(a, b, bytes.Equal)
}

func made(t *testing.T, k, m, workers, room int) *codec.Codec {
	t.Helper()
	c, e := codec.New(k, m, workers, room)
	if c == nil || e != api.OK {
		t.Fatalf("P4: New(%d, %d, %d, %d) = %v, %d", k, m, workers, room, c, e)
	}
	return c
}

func shards(l ...string) [][]byte {
	out := make([][]byte, len(l))
	for i, s := range l {
		out[i] = []byte(s)
	}
	return out
}

// haves writes a list of bools as a text: 1 where it is true.
func haves(text string) []bool {
	out := make([]bool, len(text))
	for i := range out {
		out[i] = text[i] == '1'
	}
	return out
}
