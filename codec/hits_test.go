package codec_test

import (
	"bytes"
	"math/rand"
	"slices"
	"testing"

	"weave/api"
	"weave/codec"
)

// rebuild asks for the block of k 2, m 2 of which those are had.
func rebuild(t *testing.T, c *codec.Codec, have string, hits int) {
	t.Helper()
	block := shards("\x01\x00", "\x00\x01", "\x8e\xf4", "\xf4\x8e")
	if l, e := c.Rebuild(block, haves(have)); !equal(l, block) || e != api.OK || c.Hits() != hits {
		t.Errorf("P7: Rebuild with %s = %v, %d, Hits = %d, want %d", have, l, e, c.Hits(), hits)
	}
}

func TestHitsWithRoomForOne(t *testing.T) {
	c := made(t, 2, 2, 1, 1)
	rebuild(t, c, "0011", 0)
	rebuild(t, c, "0011", 1)
	rebuild(t, c, "1010", 1)
	rebuild(t, c, "0011", 1)
	rebuild(t, c, "0011", 2)
	rebuild(t, c, "1100", 2)
	rebuild(t, c, "1111", 2)
	rebuild(t, c, "0011", 3)
}

func TestHitsWithRoomForNone(t *testing.T) {
	c := made(t, 2, 2, 1, 0)
	for range 3 {
		rebuild(t, c, "0011", 0)
		rebuild(t, c, "1010", 0)
		rebuild(t, c, "1100", 0)
	}
}

func TestHitsLetGoOfTheOneNeededLeastLately(t *testing.T) {
	c := made(t, 2, 2, 1, 2)
	rebuild(t, c, "0011", 0)
	rebuild(t, c, "1010", 0)
	rebuild(t, c, "0011", 1) // a hit is a need
	rebuild(t, c, "0101", 1) // lets go of 1010
	rebuild(t, c, "0011", 2)
	rebuild(t, c, "0101", 3)
	rebuild(t, c, "1010", 3) // lets go of 0011
	rebuild(t, c, "0101", 4)
	rebuild(t, c, "0011", 4)
}

// The set is that of the used shards, not of those that are had.
func TestHitsAreOfTheUsedShards(t *testing.T) {
	c := made(t, 2, 2, 1, 1)
	rebuild(t, c, "1010", 0)
	rebuild(t, c, "1011", 1)
	rebuild(t, c, "0110", 1)
	rebuild(t, c, "0111", 2)
}

func TestDataAloneNeedNoMatrix(t *testing.T) {
	c := made(t, 2, 2, 1, 1)
	rebuild(t, c, "1010", 0)
	for _, have := range []string{"1100", "1100", "1110", "1111", "1101"} {
		rebuild(t, c, have, 0)
	}
	rebuild(t, c, "1010", 1)
	c.Encode(shards("a", "b"))
	c.Verify(shards("a", "b", "c", "d"))
	rebuild(t, c, "1010", 2)
}

func TestAnErrorChangesNoMatrix(t *testing.T) {
	c := made(t, 2, 2, 1, 1)
	rebuild(t, c, "1010", 0)
	wrong := func() {
		c.Rebuild(shards("a", "b", "c", "dd"), haves("0011"))
		c.Rebuild(shards("a", "b", "c", "d"), haves("0001"))
		c.Rebuild(shards("a", "b", "c", "d"), haves("00110"))
		c.Rebuild(shards("a", "b", "c"), haves("0011"))
		c.Rebuild(shards("a", "b", "cc", "d"), haves("1010"))
		c.Rebuild(nil, nil)
	}
	wrong()
	rebuild(t, c, "1010", 1)
	wrong()
	rebuild(t, c, "1010", 2)
	rebuild(t, c, "0011", 2)

	d := made(t, 2, 2, 1, 2)
	rebuild(t, d, "1010", 0)
	rebuild(t, d, "0011", 0)
	d.Rebuild(shards("a", "b", "cc", "d"), haves("1010")) // is no need of it
	rebuild(t, d, "0101", 0)
	rebuild(t, d, "0011", 1)
	rebuild(t, d, "1010", 1)
}

func TestCodecsHaveNothingToDoWithOneAnother(t *testing.T) {
	c, d := made(t, 2, 2, 1, 1), made(t, 2, 2, 1, 1)
	rebuild(t, c, "0011", 0)
	rebuild(t, c, "0011", 1)
	rebuild(t, d, "0011", 0)
	rebuild(t, d, "1010", 0)
	rebuild(t, c, "0011", 2)
	rebuild(t, d, "0011", 0)
}

// usedOf writes the used shards as a text, and tells whether they need a matrix.
func usedOf(have []bool, k int) (string, bool) {
	text := bytes.Repeat([]byte("0"), len(have))
	used, needs := 0, false
	for i := range have {
		if have[i] && used < k {
			used++
			text[i] = '1'
			needs = i >= k
		}
	}
	return string(text), needs
}

// P7 by its words, with sets that go over all words of a key.
func TestHitsByTheWords(t *testing.T) {
	r := rand.New(rand.NewSource(14))
	for _, n := range [][2]int{{1, 1}, {1, 4}, {3, 3}, {5, 1}, {60, 10}, {120, 20}, {1, 254}, {200, 55}, {254, 1}, {4, 0}} {
		for _, room := range []int{0, 1, 2, 3, 7, 15, 16} {
			k, total := n[0], n[0]+n[1]
			c := made(t, k, n[1], 1+r.Intn(3), room)
			block := blockOf(drawnShards(r, k, 1), n[1])
			var sets [][]bool
			for range 1 + r.Intn(24) {
				sets = append(sets, drawnHave(r, total, k+r.Intn(n[1]+1)))
			}
			var lately []string
			hits := 0
			for range 60 {
				have := sets[r.Intn(len(sets))]
				if set, needs := usedOf(have, k); needs {
					at := slices.Index(lately, set)
					if at >= 0 {
						hits++
						lately = slices.Delete(lately, at, at+1)
					}
					lately = append(lately, set)
					if len(lately) > room {
						lately = lately[1:]
					}
				}
				if l, e := c.Rebuild(block, have); !equal(l, block) || e != api.OK || c.Hits() != hits {
					t.Fatalf("P7: k %d, m %d, room %d: Rebuild with %v: %d, Hits = %d, want %d", k, n[1], room, have, e, c.Hits(), hits)
				}
			}
		}
	}
}
