package weave_test

import (
	"bytes"
	"math/rand"
	"testing"

	"weave/api"
	"weave/codec"
	"weave/weave"
)

func TestSendOfTheExample(t *testing.T) {
	l, e := sender(t, small()).Send([]byte("abc"))
	want := [][]byte{
		[]byte("W\x01\x00\x00\x00\x00\x00\x02\x01\x00\x02\x00\x00\x00\x03ab\x6c\xc1\x9c\xba"),
		[]byte("W\x01\x00\x00\x00\x00\x01\x02\x01\x00\x02\x00\x00\x00\x03c\x00\x8b\x92\xee\xbd"),
		[]byte("W\x01\x00\x00\x00\x00\x02\x02\x01\x00\x02\x00\x00\x00\x03\x9f\x31\xce\xde\xc5\xa3"),
	}
	if !equal(l, want) || e != api.OK {
		t.Errorf("P11: Send(abc) = %q, %d, want %q", l, e, want)
	}
}

func TestSendAtAllLengths(t *testing.T) {
	r := rand.New(rand.NewSource(5))
	for _, c := range []api.Config{small(), {K: 3, M: 4, Size: 5, Window: 1, Patience: 1, Workers: 3}, {K: 7, M: 0, Size: 2, Window: 1, Patience: 1, Workers: 16, Room: 2}, {K: 1, M: 2, Size: 1, Window: 1, Patience: 1, Workers: 2}} {
		s := sender(t, c)
		sends(t, s, c, 0, nil)
		for n := range c.K*c.Size + 1 {
			sends(t, s, c, n+1, drawn(r, n))
		}
	}
}

func TestSendAtTheBounds(t *testing.T) {
	r := rand.New(rand.NewSource(6))
	for _, c := range edges() {
		s := sender(t, c)
		for i, n := range []int{0, 1, c.Size, c.K*c.Size - 1, c.K * c.Size} {
			sends(t, s, c, i, drawn(r, n))
		}
	}
}

func TestSendTooMuch(t *testing.T) {
	for _, c := range edges() {
		s := sender(t, c)
		for block := range 3 {
			for _, more := range []int{1, 2, c.Size, 70000} {
				if l, e := s.Send(make([]byte, c.K*c.Size+more)); l != nil || e != api.ErrSize {
					t.Fatalf("P11, P1: with %+v, Send of %d bytes too many = %q, %d, want nil, ErrSize", c, more, l, e)
				}
			}
			sends(t, s, c, block, []byte{byte(block)})
		}
	}
}

// The bytes of the next block's number rise one into the other.
func TestSendManyBlocks(t *testing.T) {
	c := changed(func(c *api.Config) { c.K, c.M, c.Size = 1, 0, 1 })
	s := sender(t, c)
	for block := range 66000 {
		sends(t, s, c, block, []byte{byte(block)})
	}
}

// As Put makes them, of the shards that a codec makes.
func TestSendByPutAndEncode(t *testing.T) {
	r := rand.New(rand.NewSource(7))
	for range 100 {
		c := drawnConfig(r)
		payload := drawn(r, r.Intn(c.K*c.Size+1))
		filled := append(bytes.Clone(payload), make([]byte, c.K*c.Size-len(payload))...)
		var shards [][]byte
		for i := range c.K {
			shards = append(shards, filled[i*c.Size:(i+1)*c.Size])
		}
		made, _ := codec.New(c.K, c.M, c.Workers, c.Room)
		more, _ := made.Encode(shards)
		var want [][]byte
		for i, shard := range append(shards, more...) {
			b, _ := weave.Put(c, api.Datagram{Index: i, Length: len(payload), Shard: shard})
			want = append(want, b)
		}
		if l, e := sender(t, c).Send(payload); !equal(l, want) || e != api.OK {
			t.Fatalf("P11: with %+v, Send(%q) = %q, %d", c, payload, l, e)
		}
	}
}

func TestSendDoesNotHangOnWorkersOrRoom(t *testing.T) {
	r := rand.New(rand.NewSource(8))
	for n := range 16 {
		c := changed(func(c *api.Config) { c.K, c.M, c.Size, c.Workers, c.Room = 4, 3, 17, n+1, n })
		s := sender(t, c)
		for block := range 3 {
			sends(t, s, c, block, drawn(r, r.Intn(69)))
		}
	}
}

func TestSendersAreApart(t *testing.T) {
	r := rand.New(rand.NewSource(9))
	configs := make([]api.Config, 8)
	senders := make([]*weave.Sender, 8)
	next := make([]int, 8)
	for i := range senders {
		configs[i] = drawnConfig(r)
		if i%2 == 1 {
			configs[i] = configs[i-1]
		}
		senders[i] = sender(t, configs[i])
	}
	for range 300 {
		i := r.Intn(8)
		c := configs[i]
		if r.Intn(4) == 0 {
			senders[i].Send(make([]byte, c.K*c.Size+1))
			continue
		}
		sends(t, senders[i], c, next[i], drawn(r, r.Intn(c.K*c.Size+1)))
		next[i]++
	}
}
