package codec

import (
	"bytes"
	"iter"
	"slices"
	"testing"

	"weave/api"
)

func TestKept(t *testing.T) {
	l := kept[[2]byte, string]{room: 2}
	find := func(key byte, want string) {
		t.Helper()
		if value, ok := l.find([2]byte{0, key}); value != want || ok != (want != "") {
			t.Fatalf("P7: find(%d) = %q, %v, want %q", key, value, ok, want)
		}
	}
	find(1, "")
	l.add([2]byte{0, 1}, "one")
	find(1, "one")
	l.add([2]byte{0, 2}, "two")
	find(2, "two")
	find(1, "one")
	l.add([2]byte{0, 3}, "three")
	find(2, "")
	find(1, "one")
	find(3, "three")
	l.add([2]byte{0, 4}, "four")
	find(1, "")
	find(3, "three")
	find(4, "four")
	if len(l.entries) != 2 {
		t.Errorf("P7: room for 2, but %d are kept", len(l.entries))
	}
}

func TestKeptWithoutRoom(t *testing.T) {
	l := kept[int, int]{}
	l.add(1, 1)
	if _, ok := l.find(1); ok || len(l.entries) != 0 {
		t.Errorf("P7: without room there are %d kept", len(l.entries))
	}
}

func TestPieces(t *testing.T) {
	for places := range 70 {
		for count := 1; count <= api.MaxWorkers; count++ {
			next, number := 0, 0
			for from, to := range pieces(places, count) {
				if from != next || to <= from || to-from > (places-1)/count+1 {
					t.Fatalf("%d places in %d pieces: one from %d to %d behind %d", places, count, from, to, next)
				}
				next = to
				number++
			}
			if next != places || number > count {
				t.Fatalf("%d places in %d pieces: %d pieces up to %d", places, count, number, next)
			}
		}
	}
}

func TestShardSet(t *testing.T) {
	var s shardSet
	numbers := []int{0, 1, 62, 63, 64, 65, 127, 128, 191, 192, 253, 254}
	for _, n := range slices.Backward(numbers) {
		before := s
		s = s.with(n)
		if s == before || before.has(n) || !s.has(n) || s.with(n) != s {
			t.Fatalf("shard %d: %v, %v", n, before, s)
		}
	}
	if l := slices.Collect(s.members()); !slices.Equal(l, numbers) {
		t.Errorf("members = %v", l)
	}
	lost := slices.Collect(s.missing(66))
	if len(lost) != 60 || lost[0] != 2 || lost[59] != 61 {
		t.Errorf("missing = %v", lost)
	}
	if l := slices.Collect(firstShards(api.MaxShards).missing(api.MaxShards)); len(l) != 0 {
		t.Errorf("of all shards are missing %v", l)
	}
}

// stopped counts what a loop that stops at the first has seen.
func stopped[A, B any](seq iter.Seq2[A, B]) int {
	n := 0
	for range seq {
		n++
		break
	}
	return n
}

func numbered(seq iter.Seq[int]) iter.Seq2[int, int] {
	return func(yield func(int, int) bool) {
		for n := range seq {
			if !yield(n, n) {
				return
			}
		}
	}
}

func TestLoopsStopEarly(t *testing.T) {
	l := [][]byte{{1}, {2}, {3}}
	if stopped(had(l, []bool{true, true, true})) != 1 || stopped(pairs([]byte{1, 2, 3}, l)) != 1 || stopped(pieces(9, 3)) != 1 {
		t.Error("a loop over rows or pieces did not stop")
	}
	if stopped(numbered(firstShards(3).members())) != 1 || stopped(numbered(firstShards(3).missing(6))) != 1 {
		t.Error("a loop over a set did not stop")
	}
}

// The matrix of the data alone is the block's rule, and that of any other set undoes it.
func TestNewMatrix(t *testing.T) {
	if rows := newMatrix(firstShards(2), 2, 2); !slices.EqualFunc(rows, matrix{{142, 244}, {244, 142}}, bytes.Equal) {
		t.Errorf("P5: the matrix of the data alone is %v", rows)
	}
	for k := 1; k <= 20; k++ {
		for i, row := range newMatrix(firstShards(k), k, 15) {
			for j, factor := range row {
				if times(int(factor), (k+i)^j) != 1 {
					t.Fatalf("P5: the factor of shard %d for shard %d is %d", k+i, j, factor)
				}
			}
		}
	}
	var used shardSet
	if rows := newMatrix(used.with(2).with(3), 2, 2); len(rows) != 2 || len(rows[0]) != 2 || len(rows[1]) != 2 {
		t.Errorf("P6: the matrix of the shards behind the data is %v", rows)
	}
}
