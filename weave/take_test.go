package weave_test

import (
	"bytes"
	"fmt"
	"math/rand"
	"slices"
	"testing"

	"weave/api"
)

func TestTakeOfTheExample(t *testing.T) {
	l := blocks(small(), "abc", "de", "fghi")
	r := receives(t, small())
	r.stands(0, 0)
	r.refuses(l[2][0], api.ErrEarly)
	r.takes(l[1][0])
	r.stands(0, 1)
	r.takes(l[1][2])
	r.stands(0, 1)
	r.takes(l[0][1])
	r.stands(0, 2)
	r.takes(l[0][2], given(0, "abc", "de")...)
	r.stands(2, 0)
	r.takes(l[2][0])
	r.takes(l[2][1], given(2, "fghi")...)
	r.stands(3, 0)
}

func TestTakeHasTheErrorsOfGet(t *testing.T) {
	c := small()
	good := lone(c, 0, 1, 3)
	end := len(good) - 1
	broken := bytes.Clone(good)
	broken[16] ^= 1
	wrong := map[string]api.Errno{
		"": api.ErrFrame, "W": api.ErrFrame, "noise that is longer than a datagram": api.ErrFrame,
		string(good[:end]): api.ErrFrame, string(good) + "x": api.ErrFrame, string(broken): api.ErrFrame,
		string(lone(c, api.MaxBlock+1, 0, 3)): api.ErrFrame, string(lone(c, 1<<32-1, 0, 3)): api.ErrFrame,
		string(lone(c, 0, 3, 3)): api.ErrFrame, string(lone(c, 0, 0, 5)): api.ErrFrame,
		string(lone(changed(func(c *api.Config) { c.K = 3 }), 0, 0, 3)):    api.ErrOther,
		string(lone(changed(func(c *api.Config) { c.M = 2 }), 0, 0, 3)):    api.ErrOther,
		string(lone(changed(func(c *api.Config) { c.Size = 3 }), 0, 0, 3)): api.ErrOther,
	}
	l := blocks(c, "abc", "def")
	r := receives(t, c)
	refusesAll := func() {
		t.Helper()
		r.refuses(nil, api.ErrFrame)
		for b, e := range wrong {
			r.refuses([]byte(b), e)
		}
	}
	refusesAll()
	r.takes(l[1][2])
	refusesAll()
	r.takes(l[0][0])
	refusesAll()
	r.takes(l[1][0])
	refusesAll()
	r.takes(l[0][1], given(0, "abc", "def")...)
	refusesAll()
	r.stands(2, 0)
}

// An error of Get comes ahead of what the receiver has against the block.
func TestTakeNamesTheFirstError(t *testing.T) {
	c := small()
	other := changed(func(c *api.Config) { c.M = 2 })
	r := receives(t, c)
	for _, b := range blocks(c, "abc")[0][:2] {
		r.take(b)
	}
	r.takes(lone(c, 1, 0, 3))
	for _, block := range []int{0, 1, 3, api.MaxBlock} {
		broken := lone(c, block, 0, 4)
		broken[15]++
		r.refuses(broken, api.ErrFrame)
		r.refuses(lone(c, block, 3, 4), api.ErrFrame)
		r.refuses(lone(other, block, 0, 4), api.ErrOther)
	}
	r.refuses(lone(c, 0, 0, 4), api.ErrLate)  // a shard that has come, with another Length
	r.refuses(lone(c, 1, 0, 4), api.ErrTwice) // with another Length too
	r.refuses(lone(c, 1, 1, 4), api.ErrOdd)
}

func TestTakeAtTheWindow(t *testing.T) {
	for window := 1; window <= api.MaxWindow; window++ {
		c := changed(func(c *api.Config) { c.Window = window })
		for base := range 5 {
			r := moved(t, c, base)
			for _, block := range []int{base + window, base + window + 1, base + 256*window, api.MaxBlock - 1, api.MaxBlock} {
				r.refuses(lone(c, block, 0, 3), api.ErrEarly)
			}
			for block := range base {
				for index := range 3 {
					r.refuses(lone(c, block, index, 0), api.ErrLate)
				}
			}
			for i := range window {
				r.takes(lone(c, base+window-1-i, 2, 3))
				r.stands(base, i+1)
			}
			r.refuses(lone(c, base+window, 0, 3), api.ErrEarly)
		}
	}
}

// moved is a receiver that has given out the blocks below its base, and has none open.
func moved(t *testing.T, c api.Config, base int) *receiver {
	t.Helper()
	r := receives(t, c)
	for block := range base {
		for _, b := range sent(c, block, nil)[:c.K] {
			r.take(b)
		}
	}
	r.stands(base, 0)
	return r
}

func TestTakeTwice(t *testing.T) {
	c := changed(func(c *api.Config) { c.K, c.M, c.Window = 3, 2, 3 })
	l := blocks(c, "abcdef", "ghijk", "")
	r := receives(t, c)
	for i, b := range l[1] {
		for _, earlier := range l[1][:i] {
			r.refuses(earlier, api.ErrTwice)
		}
		r.takes(b)
		r.refuses(b, api.ErrTwice)
		r.refuses(lone(c, 1, i, 5), api.ErrTwice) // another shard, the same index
		r.refuses(lone(c, 1, i, 6), api.ErrTwice)
		r.stands(0, 1)
	}
	r.takes(l[2][4]) // an index that has come in another block
	for _, b := range l[0][:2] {
		r.takes(b)
		r.refuses(b, api.ErrTwice)
	}
	r.takes(l[0][4], given(0, "abcdef", "ghijk")...)
	for _, b := range slices.Concat(l[0], l[1]) {
		r.refuses(b, api.ErrLate)
	}
	r.stands(2, 1)
}

func TestTakeOdd(t *testing.T) {
	c := changed(func(c *api.Config) { c.K, c.M = 2, 2 })
	for length := range 5 {
		payload := "abcd"[:length]
		l := blocks(c, payload, payload)
		for count := 1; count < 4; count++ {
			r := receives(t, c)
			for _, b := range l[1][:count] {
				r.takes(b)
			}
			for other := range 5 {
				for index := count; index < 4 && other != length; index++ {
					r.refuses(lone(c, 1, index, other), api.ErrOdd)
				}
			}
			for _, b := range l[1][count:] { // none of these has come by an error
				r.takes(b)
			}
			r.takes(l[0][3])
			r.takes(l[0][1], given(0, payload, payload)...)
		}
	}
}

// The block's first Length counts, though those behind it are another's.
func TestTakeGoesByTheFirstLength(t *testing.T) {
	l := blocks(small(), "abcd", "abcd")
	r := receives(t, small())
	r.takes(lone(small(), 0, 2, 1))
	for _, b := range l[0][:2] {
		r.refuses(b, api.ErrOdd)
	}
	shard := sealed(headOf(small(), api.Datagram{Index: 0, Length: 1}), []byte("xy"))
	r.takes(shard, given(0, "x")...)
}

// orders gives each order of so many of the indexes below total.
func orders(total, count int, yield func([]int)) {
	var more func(chosen []int)
	more = func(chosen []int) {
		if len(chosen) == count {
			yield(chosen)
			return
		}
		for i := range total {
			if !slices.Contains(chosen, i) {
				more(append(slices.Clone(chosen), i))
			}
		}
	}
	more(nil)
}

func TestTakeAnyShardsInAnyOrder(t *testing.T) {
	random := rand.New(rand.NewSource(10))
	for _, n := range [][2]int{{1, 0}, {1, 1}, {1, 4}, {2, 0}, {2, 1}, {2, 3}, {3, 0}, {3, 2}, {3, 3}, {4, 1}, {4, 2}, {5, 0}} {
		c := api.Config{K: n[0], M: n[1], Size: 3, Window: 1, Patience: 1, Workers: 1 + random.Intn(4), Room: random.Intn(3)}
		orders(c.K+c.M, c.K, func(order []int) {
			payload := string(drawn(random, random.Intn(c.K*c.Size+1)))
			l := blocks(c, payload)
			r := receives(t, c)
			for _, index := range order[:c.K-1] {
				r.takes(l[0][index])
				r.stands(0, 1)
			}
			r.takes(l[0][order[c.K-1]], given(0, payload)...)
			r.stands(1, 0)
		})
	}
}

func TestTakeOfAllLengths(t *testing.T) {
	random := rand.New(rand.NewSource(11))
	for _, n := range [][3]int{{1, 1, 1}, {1, 0, 7}, {2, 1, 2}, {3, 4, 5}, {7, 2, 1}, {4, 4, 16}} {
		c := api.Config{K: n[0], M: n[1], Size: n[2], Window: 2, Patience: 1, Workers: 2, Room: 1}
		r := receives(t, c)
		for length := range c.K*c.Size + 1 {
			payload := drawn(random, length)
			l := sent(c, length, payload)
			for i, index := range random.Perm(c.K + c.M)[:c.K] {
				if i < c.K-1 {
					r.takes(l[index])
					continue
				}
				r.takes(l[index], given(length, string(payload))...)
			}
		}
	}
}

func TestTakeAtTheBounds(t *testing.T) {
	random := rand.New(rand.NewSource(12))
	for _, c := range edges() {
		r := receives(t, c)
		for block, length := range []int{0, 1, c.Size, c.K*c.Size - 1, c.K * c.Size} {
			payload := drawn(random, length)
			l := sent(c, block, payload)
			from := c.M * (block % 2) // first the data, then the last ones
			for i := range c.K - 1 {
				r.takes(l[from+i])
			}
			r.takes(l[from+c.K-1], given(block, string(payload))...)
		}
	}
}

func TestBlocksAheadOfTheBaseWait(t *testing.T) {
	payloads := []string{"abcd", "", "ef", "g"}
	c := changed(func(c *api.Config) { c.Window = 4 })
	l := blocks(c, payloads...)
	orders(4, 4, func(order []int) {
		r := receives(t, c)
		whole := make([]bool, 5)
		base := 0
		for i, block := range order {
			r.takes(l[block][2])
			r.stands(base, i+1-base)
			whole[block] = true
			first := base
			for whole[base] {
				base++
			}
			r.takes(l[block][block%2], given(first, payloads[first:base]...)...)
			r.stands(base, i+1-base)
		}
	})
}

// A block that is not whole holds back those behind it, and none ahead of it.
func TestBlocksAreHeldBack(t *testing.T) {
	c := changed(func(c *api.Config) { c.Window = 5 })
	l := blocks(c, "a", "b", "c", "d", "e")
	r := receives(t, c)
	for _, block := range []int{4, 1, 3} {
		r.takes(l[block][0])
		r.takes(l[block][1])
	}
	r.takes(l[2][1])
	r.stands(0, 4)
	r.takes(l[0][2])
	r.stands(0, 5)
	r.takes(l[0][0], given(0, "a", "b")...)
	r.stands(2, 3)
	r.takes(l[2][2], given(2, "c", "d", "e")...)
	r.stands(5, 0)
}

func TestFurtherShardsChangeNothing(t *testing.T) {
	c := changed(func(c *api.Config) { c.K, c.M = 2, 3 })
	l := blocks(c, "abcd", "efgh")
	orders(5, 2, func(used []int) {
		r := receives(t, c)
		for _, index := range used {
			r.takes(l[1][index])
		}
		for index := range 5 {
			if !slices.Contains(used, index) {
				r.takes(lone(c, 1, index, 4))
				r.stands(0, 1)
				r.refuses(lone(c, 1, index, 4), api.ErrTwice)
				r.refuses(l[1][index], api.ErrTwice)
			}
		}
		r.takes(l[0][3])
		r.takes(l[0][4], given(0, "abcd", "efgh")...)
		r.stands(2, 0)
	})
}

// Shards that no sender puts together are those of a block all the same.
func TestTakeOfShardsThatDoNotGoTogether(t *testing.T) {
	random := rand.New(rand.NewSource(13))
	for range 300 {
		c := drawnConfig(random)
		c.K, c.M, c.Size = 1+c.K%6, c.M%5, 1+c.Size%9
		r := receives(t, c)
		shards := make([][]byte, c.K+c.M)
		var out []api.Block
		for _, index := range random.Perm(c.K + c.M)[:c.K] {
			shards[index] = drawn(random, c.Size)
			out, _ = r.take(sealed(headOf(c, api.Datagram{Index: index, Length: c.K * c.Size}), shards[index]))
		}
		if len(out) != 1 || len(out[0].Payload) != c.K*c.Size {
			t.Fatalf("P12: with %+v, Take of the last shard = %v", c, out)
		}
		for i, b := range sent(c, 0, out[0].Payload) {
			if shards[i] != nil && !bytes.Equal(b[15:15+c.Size], shards[i]) {
				t.Fatalf("P12: with %+v, the payload %q has another shard %d than %q", c, out[0].Payload, i, shards[i])
			}
		}
	}
}

// What workers and room are set to is not to be seen.
func TestTakeDoesNotHangOnWorkersOrRoom(t *testing.T) {
	random := rand.New(rand.NewSource(14))
	for n := range 16 {
		c := changed(func(c *api.Config) { c.K, c.M, c.Size, c.Window, c.Workers, c.Room = 4, 3, 17, 3, n+1, n })
		r := receives(t, c)
		for block := range 30 {
			payload := fmt.Sprint("payload ", block)
			l := sent(c, block, []byte(payload))
			order := random.Perm(7)
			for _, index := range order[:3] {
				r.takes(l[index])
			}
			r.takes(l[order[3]], given(block, payload)...)
		}
	}
}
