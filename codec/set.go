package codec

import (
	"iter"

	"weave/api"
)

const wordBits = 64

// shardSet has a bit for each shard of a block: an array, so that two sets of the same shards are the same key.
type shardSet [(api.MaxShards + wordBits - 1) / wordBits]uint64

// firstShards is the set of the first count shards.
func firstShards(count int) shardSet {
	var s shardSet
	for n := range count {
		s = s.with(n)
	}
	return s
}

func (s shardSet) with(n int) shardSet {
	s[n/wordBits] |= 1 << (n % wordBits)
	return s
}

func (s shardSet) has(n int) bool {
	return s[n/wordBits]>>(n%wordBits)&1 == 1
}

// members goes through the numbers of the shards in the set, the lowest first.
func (s shardSet) members() iter.Seq[int] {
	return func(yield func(int) bool) {
		for n := range api.MaxShards {
			if s.has(n) && !yield(n) {
				return
			}
		}
	}
}

// missing goes through the numbers below total of the shards that are not in the set, the lowest first.
func (s shardSet) missing(total int) iter.Seq[int] {
	return func(yield func(int) bool) {
		for n := range total {
			if !s.has(n) && !yield(n) {
				return
			}
		}
	}
}
