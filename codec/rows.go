package codec

import "iter"

// had goes through the shards that are had, with their numbers.
func had(shards [][]byte, have []bool) iter.Seq2[int, []byte] {
	return func(yield func(int, []byte) bool) {
		for n, shard := range shards {
			if have[n] && !yield(n, shard) {
				return
			}
		}
	}
}

// pairs goes through the factors of a matrix's row, each with the shard that it is for.
func pairs(row []byte, shards [][]byte) iter.Seq2[byte, []byte] {
	return func(yield func(byte, []byte) bool) {
		for i, factor := range row {
			if !yield(factor, shards[i]) {
				return
			}
		}
	}
}

// firstHad picks the first count shards that are had, or as many as there are.
func firstHad(shards [][]byte, have []bool, count int) (shardSet, [][]byte) {
	var used shardSet
	var given [][]byte
	for n, shard := range had(shards, have) {
		used = used.with(n)
		given = append(given, shard)
		if len(given) == count {
			break
		}
	}
	return used, given
}

func sameLength(shards iter.Seq2[int, []byte]) bool {
	length := -1
	for _, shard := range shards {
		if length >= 0 && len(shard) != length {
			return false
		}
		length = len(shard)
	}
	return true
}
