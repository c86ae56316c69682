package codec

import (
	"iter"
	"sync"
)

// combine makes a shard of each row of a matrix. The places are cut into pieces, and each piece has a worker of its own, who writes nowhere else.
func combine(rows matrix, shards [][]byte, workers int) [][]byte {
	places := len(shards[0])
	made := make([][]byte, len(rows))
	for i := range made {
		made[i] = make([]byte, places)
	}
	var working sync.WaitGroup
	for from, to := range pieces(places, workers) {
		working.Add(1)
		go func() {
			defer working.Done()
			for i, row := range rows {
				fill(made[i][from:to], row, shards, from)
			}
		}()
	}
	working.Wait()
	return made
}

// pieces goes through the places in up to count pieces, each from its first place to that behind its last.
func pieces(places int, count int) iter.Seq2[int, int] {
	return func(yield func(int, int) bool) {
		size := (places + count - 1) / count
		for from := 0; from < places; from += size {
			if !yield(from, min(from+size, places)) {
				return
			}
		}
	}
}

// fill makes a piece, of zeros, into the sum of the shards' pieces that begin at the place from, each times its factor.
func fill(piece []byte, row []byte, shards [][]byte, from int) {
	for factor, shard := range pairs(row, shards) {
		for i, number := range shard[from : from+len(piece)] {
			piece[i] ^= byte(times(int(factor), int(number)))
		}
	}
}
