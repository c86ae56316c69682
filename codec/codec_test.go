package codec_test

import (
	"bytes"
	"math"
	"math/rand"
	"slices"
	"testing"

	"weave/api"
	"weave/codec"
)

func TestNewAtItsBounds(t *testing.T) {
	for _, n := range [][4]int{
		{2, 2, 1, 1}, {10, 4, 4, 4}, {1, 0, 1, 0}, {1, 254, 16, 16}, {255, 0, 16, 16}, {254, 1, 1, 16},
		{128, 127, 8, 8}, {200, 55, 16, 0}, {1, 1, 1, 16}, {1, 1, 16, 0},
	} {
		c := made(t, n[0], n[1], n[2], n[3])
		if c.Hits() != 0 {
			t.Errorf("P7: Hits of New(%v) = %d", n, c.Hits())
		}
		if l, e := c.Encode(make([][]byte, n[0])); len(l) != n[1] || e != api.OK {
			t.Errorf("P4: the codec of New(%v) encodes to %d shards, %d", n, len(l), e)
		}
	}
}

func TestNewOutside(t *testing.T) {
	refused := func(k, m, workers, room int) {
		if c, e := codec.New(k, m, workers, room); c != nil || e != api.ErrArg {
			t.Errorf("P4, P1: New(%d, %d, %d, %d) = %v, %d, want nil, ErrArg", k, m, workers, room, c, e)
		}
	}
	for _, far := range []int{math.MinInt, math.MinInt + 255, -1 << 32, -256, -1, 256, 1 << 32, math.MaxInt - 254, math.MaxInt} {
		refused(far, 1, 1, 1)
		refused(far, 0, 1, 1)
		refused(1, far, 1, 1)
		refused(255, far, 1, 1)
		refused(1, 1, far, 1)
		refused(1, 1, 1, far)
		refused(far, far, far, far)
	}
	for _, n := range [][4]int{
		{0, 0, 1, 1}, {0, 255, 1, 1}, {256, 0, 1, 1}, {256, -1, 1, 1}, {1, -1, 1, 1}, {255, -1, 1, 1},
		{1, 255, 1, 1}, {254, 2, 1, 1}, {255, 1, 1, 1}, {128, 128, 1, 1}, {200, 56, 1, 1},
		{1, 1, 0, 1}, {1, 1, 17, 1}, {1, 1, 1, -1}, {1, 1, 1, 17},
	} {
		refused(n[0], n[1], n[2], n[3])
	}
}

func TestEncodeExamples(t *testing.T) {
	for _, k := range []struct {
		m    int
		data [][]byte
		want [][]byte
	}{
		{2, shards("\x01\x00", "\x00\x01"), shards("\x8e\xf4", "\xf4\x8e")},
		{2, shards("\x00\x00", "\x00\x00"), shards("\x00\x00", "\x00\x00")},
		{2, shards("", ""), shards("", "")},
		{2, [][]byte{nil, {}}, shards("", "")},
		{1, shards("\x01"), shards("\x01")},
		{1, shards("xyz"), shards("xyz")},
		{2, shards("\x02"), shards("\x02", "\x01")},
		{0, shards("a", "b", "c"), nil},
		{0, shards("", "", ""), nil},
	} {
		c := made(t, len(k.data), k.m, 3, 1)
		if l, e := c.Encode(k.data); !equal(l, k.want) || e != api.OK {
			t.Errorf("P5: Encode(%q) with m %d = %q, %d, want %q", k.data, k.m, l, e, k.want)
		}
	}
}

var counts = [][2]int{{1, 0}, {1, 1}, {1, 254}, {2, 253}, {3, 4}, {7, 9}, {16, 0}, {63, 2}, {64, 64}, {65, 66}, {128, 127}, {200, 55}, {254, 1}, {255, 0}}

func TestEncodeByTheWords(t *testing.T) {
	r := rand.New(rand.NewSource(5))
	for i, n := range counts {
		for _, length := range []int{0, 1, 2, 15, 16, 17, 40} {
			data := drawnShards(r, n[0], length)
			want := blockOf(data, n[1])[n[0]:]
			c := made(t, n[0], n[1], 1+(i+length)%api.MaxWorkers, 0)
			if l, e := c.Encode(data); !equal(l, want) || e != api.OK {
				t.Fatalf("P5: Encode of %d shards of %d bytes, m %d, is not the block's: %d", n[0], length, n[1], e)
			}
		}
	}
}

func TestEncodeWrong(t *testing.T) {
	for _, k := range []struct {
		data [][]byte
		e    api.Errno
	}{
		{nil, api.ErrCount}, {[][]byte{}, api.ErrCount}, {shards("a"), api.ErrCount}, {shards("a", "b"), api.ErrCount},
		{shards("a", "b", "c", "d"), api.ErrCount}, {shards("a", "b", "c", "d", "e"), api.ErrCount},
		{shards("a", "bb"), api.ErrCount}, {shards("a", "bb", "c", "d"), api.ErrCount}, {make([][]byte, 256), api.ErrCount},
		{shards("aa", "b", "c"), api.ErrSize}, {shards("a", "bb", "c"), api.ErrSize}, {shards("a", "b", "cc"), api.ErrSize},
		{shards("a", "b", ""), api.ErrSize}, {[][]byte{nil, nil, {1}}, api.ErrSize}, {[][]byte{{1}, nil, nil}, api.ErrSize},
	} {
		if l, e := made(t, 3, 2, 2, 2).Encode(k.data); l != nil || e != k.e {
			t.Errorf("P5, P1: Encode(%q) = %q, %d, want nil, %d", k.data, l, e, k.e)
		}
	}
}

func TestVerifyExamples(t *testing.T) {
	for _, k := range []struct {
		l  [][]byte
		ok bool
		e  api.Errno
	}{
		{shards("\x01\x00", "\x00\x01", "\x8e\xf4", "\xf4\x8e"), true, api.OK},
		{shards("\x00", "\x00", "\x00", "\x00"), true, api.OK},
		{shards("", "", "", ""), true, api.OK},
		{make([][]byte, 4), true, api.OK},
		{shards("\x01\x00", "\x00\x01", "\xf4\x8e", "\x8e\xf4"), false, api.OK},
		{shards("\x01\x00", "\x00\x01", "\x8e\xf4", "\x8e\xf4"), false, api.OK},
		{shards("\x01\x00", "\x00\x01", "\xf4\x8e", "\xf4\x8e"), false, api.OK},
		{shards("\x00", "\x00", "\x00", "\x01"), false, api.OK},
		{shards("\x01", "\x00", "\x00", "\x00"), false, api.OK},
		{nil, false, api.ErrCount}, {shards("a", "b"), false, api.ErrCount}, {shards("a", "b", "c"), false, api.ErrCount},
		{shards("", "", "", "", ""), false, api.ErrCount}, {shards("a", "b", "cc"), false, api.ErrCount},
		{shards("a", "b", "c", "d", "ee"), false, api.ErrCount},
		{shards("aa", "b", "c", "d"), false, api.ErrSize}, {shards("a", "b", "c", "dd"), false, api.ErrSize},
		{shards("a", "b", "c", ""), false, api.ErrSize}, {[][]byte{nil, nil, nil, {0}}, false, api.ErrSize},
		{[][]byte{{0}, {0}, {0}, nil}, false, api.ErrSize}, {shards("a", "b", "cc", "dd"), false, api.ErrSize},
	} {
		if ok, e := made(t, 2, 2, 2, 1).Verify(k.l); ok != k.ok || e != k.e {
			t.Errorf("P5, P1: Verify(%q) = %v, %d, want %v, %d", k.l, ok, e, k.ok, k.e)
		}
	}
}

func TestVerifySeesEveryChange(t *testing.T) {
	r := rand.New(rand.NewSource(6))
	for _, n := range [][3]int{{1, 1, 1}, {1, 5, 4}, {5, 1, 4}, {4, 3, 18}, {20, 12, 3}} {
		block := blockOf(drawnShards(r, n[0], n[2]), n[1])
		c := made(t, n[0], n[1], 1+r.Intn(api.MaxWorkers), 0)
		if ok, e := c.Verify(block); !ok || e != api.OK {
			t.Fatalf("P5: Verify of a block = %v, %d", ok, e)
		}
		for i := range block {
			for at := range block[i] {
				change := byte(1 + r.Intn(255))
				block[i][at] ^= change
				if ok, e := c.Verify(block); ok || e != api.OK {
					t.Fatalf("P5: Verify with shard %d changed at %d = %v, %d", i, at, ok, e)
				}
				block[i][at] ^= change
			}
		}
	}
}

func TestVerifyWithoutMoreShards(t *testing.T) {
	if ok, e := made(t, 3, 0, 1, 0).Verify(shards("a", "b", "c")); !ok || e != api.OK {
		t.Errorf("P5: any shards are a block when m is 0: Verify = %v, %d", ok, e)
	}
}

func TestRebuildExamples(t *testing.T) {
	block := shards("\x01\x00", "\x00\x01", "\x8e\xf4", "\xf4\x8e")
	for _, k := range []struct {
		given [][]byte
		have  string
	}{
		{[][]byte{nil, nil, block[2], block[3]}, "0011"},
		{[][]byte{block[0], block[1], nil, nil}, "1100"},
		{[][]byte{block[0], nil, nil, block[3]}, "1001"},
		{[][]byte{[]byte("noise"), block[1], block[2], []byte("n")}, "0110"},
		{block, "0111"}, {block, "1111"}, {block, "1011"},
		{[][]byte{block[0], block[1], []byte("no"), []byte("xx")}, "1111"}, // the first k are used
		{[][]byte{[]byte("no"), block[1], block[2], []byte("xx")}, "0111"},
	} {
		if l, e := made(t, 2, 2, 1, 1).Rebuild(k.given, haves(k.have)); !equal(l, block) || e != api.OK {
			t.Errorf("P6: Rebuild(%q, %s) = %q, %d", k.given, k.have, l, e)
		}
	}
}

// Every set of shards that can be had, in all small blocks.
func TestRebuildOfAllSets(t *testing.T) {
	r := rand.New(rand.NewSource(7))
	for total := 1; total <= 8; total++ {
		for k := 1; k <= total; k++ {
			block := blockOf(drawnShards(r, k, r.Intn(5)), total-k)
			c := made(t, k, total-k, 1+r.Intn(api.MaxWorkers), r.Intn(api.MaxRoom+1))
			for set := range 1 << total {
				have := make([]bool, total)
				count := 0
				for i := range have {
					have[i] = set>>i&1 == 1
					count += set >> i & 1
				}
				l, e := c.Rebuild(onlyHad(r, block, have), have)
				if count < k && (l != nil || e != api.ErrFew) {
					t.Fatalf("P6: Rebuild of %d shards, k %d, %v = %v, %d, want ErrFew", total, k, have, l, e)
				}
				if count >= k && (!equal(l, block) || e != api.OK) {
					t.Fatalf("P6: Rebuild of %d shards, k %d, %v = %v, %d, want %v", total, k, have, l, e, block)
				}
			}
		}
	}
}

func TestRebuildOfGreatBlocks(t *testing.T) {
	r := rand.New(rand.NewSource(8))
	for _, n := range counts {
		k, total := n[0], n[0]+n[1]
		block := blockOf(drawnShards(r, k, 5), n[1])
		c := made(t, k, n[1], 2, 2)
		last := make([]bool, total)
		for i := total - k; i < total; i++ {
			last[i] = true
		}
		for _, have := range [][]bool{last, drawnHave(r, total, k), drawnHave(r, total, k), drawnHave(r, total, (k+total)/2), drawnHave(r, total, total)} {
			if l, e := c.Rebuild(onlyHad(r, block, have), have); !equal(l, block) || e != api.OK {
				t.Fatalf("P6: Rebuild with k %d, m %d and %v makes another block, %d", k, n[1], have, e)
			}
		}
		if l, e := c.Rebuild(block, drawnHave(r, total, k-1)); l != nil || e != api.ErrFew {
			t.Fatalf("P6: Rebuild with k %d of %d shards = %v, %d", k, k-1, l, e)
		}
	}
}

// Any k shards at all are used shards of some block, and what is had beyond them is not asked.
func TestRebuildOfShardsThatDoNotGoTogether(t *testing.T) {
	r := rand.New(rand.NewSource(9))
	for range 200 {
		k, m := 1+r.Intn(6), r.Intn(7)
		given := drawnShards(r, k+m, 4)
		have := drawnHave(r, k+m, k+r.Intn(m+1))
		l, e := made(t, k, m, 1+r.Intn(4), 1).Rebuild(given, have)
		if len(l) != k+m || e != api.OK || !equal(l, blockOf(l[:k], m)) {
			t.Fatalf("P6: Rebuild of %v, %v = %v, %d, which is no block", given, have, l, e)
		}
		used := 0
		for i := 0; used < k; i++ {
			if have[i] {
				used++
				if !bytes.Equal(l[i], given[i]) {
					t.Fatalf("P6: Rebuild of %v, %v = %v: shard %d was used", given, have, l, i)
				}
			}
		}
	}
}

func TestRebuildWrong(t *testing.T) {
	for _, k := range []struct {
		given [][]byte
		have  string
		e     api.Errno
	}{
		{nil, "", api.ErrCount}, {nil, "1111", api.ErrCount}, {shards("a", "b", "c", "d"), "", api.ErrCount},
		{shards("a", "b", "c"), "111", api.ErrCount}, {shards("a", "b", "c"), "1111", api.ErrCount},
		{shards("a", "b", "c", "d"), "111", api.ErrCount}, {shards("a", "b", "c", "d"), "11111", api.ErrCount},
		{shards("a", "b", "c", "d", "e"), "1111", api.ErrCount}, {shards("a", "b", "c", "d", "e"), "11111", api.ErrCount},
		{shards("a", "b"), "11", api.ErrCount}, {shards("a", "bb", "c", "d"), "00000", api.ErrCount},
		{shards("a", "b", "c"), "000", api.ErrCount}, {shards("a", "bb", "c"), "111", api.ErrCount},
		{make([][]byte, 4), "0000", api.ErrFew}, {shards("a", "b", "c", "d"), "0000", api.ErrFew},
		{shards("a", "b", "c", "d"), "1000", api.ErrFew}, {shards("a", "b", "c", "d"), "0001", api.ErrFew},
		{shards("a", "bb", "ccc", "dddd"), "0010", api.ErrFew},
		{shards("a", "bb", "c", "d"), "1100", api.ErrSize}, {shards("aa", "b", "c", "d"), "1001", api.ErrSize},
		{shards("a", "b", "cc", "d"), "1110", api.ErrSize}, {shards("a", "b", "c", "dd"), "1111", api.ErrSize},
		{shards("a", "b", "c", ""), "1111", api.ErrSize}, {[][]byte{nil, nil, nil, {1}}, "1111", api.ErrSize},
		{[][]byte{{1}, nil, nil, nil}, "1001", api.ErrSize},
	} {
		c := made(t, 2, 2, 2, 2)
		if l, e := c.Rebuild(k.given, haves(k.have)); l != nil || e != k.e || c.Hits() != 0 {
			t.Errorf("P6, P1: Rebuild(%q, %s) = %q, %d, want nil, %d", k.given, k.have, l, e, k.e)
		}
	}
	if l, e := made(t, 2, 2, 2, 2).Rebuild(shards("a", "b", "c", "d"), nil); l != nil || e != api.ErrCount {
		t.Errorf("P6, P1: Rebuild without a list of those that are had = %q, %d", l, e)
	}
}

func TestRebuildOfNoBytes(t *testing.T) {
	c := made(t, 2, 2, 16, 1)
	for i, have := range []string{"0011", "0011", "1100", "0011"} {
		l, e := c.Rebuild([][]byte{nil, {}, {}, nil}, haves(have))
		if !equal(l, make([][]byte, 4)) || e != api.OK || c.Hits() != []int{0, 1, 1, 2}[i] {
			t.Errorf("P6, P7: Rebuild of no bytes, %s = %v, %d, Hits = %d", have, l, e, c.Hits())
		}
	}
}

func TestWorkersAndRoomChangeNoAnswer(t *testing.T) {
	r := rand.New(rand.NewSource(10))
	for _, length := range []int{0, 1, 2, 15, 16, 17, 31, 33, 100} {
		block := blockOf(drawnShards(r, 5, length), 4)
		asked := [][]bool{haves("000011111"), haves("111110000"), haves("101010101"), haves("000011111"), haves("011111100")}
		for n := range api.MaxWorkers {
			c := made(t, 5, 4, n+1, r.Intn(api.MaxRoom+1))
			if l, e := c.Encode(block[:5]); !equal(l, block[5:]) || e != api.OK {
				t.Fatalf("P4: Encode of %d places with %d workers = %v, %d", length, n+1, l, e)
			}
			if ok, e := c.Verify(block); !ok || e != api.OK {
				t.Fatalf("P4: Verify of %d places with %d workers = %v, %d", length, n+1, ok, e)
			}
			for _, have := range asked {
				if l, e := c.Rebuild(block, have); !equal(l, block) || e != api.OK {
					t.Fatalf("P4: Rebuild of %d places with %d workers, %v = %v, %d", length, n+1, have, l, e)
				}
			}
		}
		for room := range api.MaxRoom + 1 {
			c := made(t, 5, 4, 3, room)
			for range 3 {
				for _, have := range asked {
					if l, e := c.Rebuild(block, have); !equal(l, block) || e != api.OK {
						t.Fatalf("P4: Rebuild of %d places with room %d, %v = %v, %d", length, room, have, l, e)
					}
				}
			}
		}
	}
}

func TestEncodeOfASum(t *testing.T) {
	r := rand.New(rand.NewSource(11))
	for range 50 {
		k, m, length := 1+r.Intn(20), r.Intn(20), r.Intn(30)
		c := made(t, k, m, 1+r.Intn(api.MaxWorkers), 0)
		one, other := drawnShards(r, k, length), drawnShards(r, k, length)
		behindOne, _ := c.Encode(one)
		behindOther, _ := c.Encode(other)
		l, e := c.Encode(sum(one, other))
		if !equal(l, sum(behindOne, behindOther)) || e != api.OK {
			t.Fatalf("P16: Encode of a sum = %v, %d", l, e)
		}
	}
}

func sum(a, b [][]byte) [][]byte {
	out := copied(a)
	for i := range out {
		for at := range out[i] {
			out[i][at] ^= b[i][at]
		}
	}
	return out
}

// P17: one codec, many sets in any order.
func TestRebuildInAnyOrder(t *testing.T) {
	r := rand.New(rand.NewSource(12))
	for room := range api.MaxRoom + 1 {
		k, m := 1+r.Intn(12), 1+r.Intn(12)
		c := made(t, k, m, 1+r.Intn(api.MaxWorkers), room)
		for range 60 {
			block := blockOf(drawnShards(r, k, r.Intn(20)), m)
			have := drawnHave(r, k+m, k)
			if l, e := c.Rebuild(onlyHad(r, block, have), have); !equal(l, block) || e != api.OK {
				t.Fatalf("P17: Rebuild with k %d, m %d, room %d, %v = %v, %d", k, m, room, have, l, e)
			}
		}
	}
}

func TestNoPanicAtAnyLists(t *testing.T) {
	r := rand.New(rand.NewSource(13))
	for range 3000 {
		k, m := 1+r.Intn(3), r.Intn(3)
		c := made(t, k, m, 1+r.Intn(3), r.Intn(3))
		l := make([][]byte, r.Intn(7))
		for i := range l {
			l[i] = [][]byte{nil, {}, {1}, {2}, {1, 2}}[r.Intn(5)]
		}
		have := make([]bool, max(0, len(l)+r.Intn(3)-1))
		for i := range have {
			have[i] = r.Intn(2) == 1
		}
		if out, e := c.Encode(l); (e == api.OK) != (len(l) == k && oneLength(l)) || e != api.OK && out != nil {
			t.Fatalf("P1, P5: Encode(%v) with k %d, m %d = %v, %d", l, k, m, out, e)
		}
		if ok, e := c.Verify(l); (e == api.OK) != (len(l) == k+m && oneLength(l)) || e != api.OK && ok {
			t.Fatalf("P1, P5: Verify(%v) with k %d, m %d = %v, %d", l, k, m, ok, e)
		}
		if out, e := c.Rebuild(l, have); e != rebuildError(k, m, l, have) || (e == api.OK) != (len(out) == k+m) || e != api.OK && out != nil {
			t.Fatalf("P1, P6: Rebuild(%v, %v) with k %d, m %d = %v, %d", l, have, k, m, out, e)
		}
	}
}

func oneLength(l [][]byte) bool {
	return !slices.ContainsFunc(l, func(b []byte) bool { return len(b) != len(l[0]) })
}

// rebuildError is P6 by its words.
func rebuildError(k, m int, l [][]byte, have []bool) api.Errno {
	if len(l) != k+m || len(have) != k+m {
		return api.ErrCount
	}
	var those [][]byte
	for i := range l {
		if have[i] {
			those = append(those, l[i])
		}
	}
	if len(those) < k {
		return api.ErrFew
	}
	if !oneLength(those) {
		return api.ErrSize
	}
	return api.OK
}
