package weave_test

import (
	"bytes"
	"encoding/binary"
	"hash/fnv"
	"math/rand"
	"slices"
	"testing"

	"weave/api"
	"weave/gf"
	"weave/weave"
)

// small is the stream of the document's examples.
func small() api.Config {
	return api.Config{K: 2, M: 1, Size: 2, Window: 2, Patience: 2, Workers: 1, Room: 1}
}

// changed is the small configuration with one thing of it, or more, set otherwise.
func changed(change func(c *api.Config)) api.Config {
	c := small()
	change(&c)
	return c
}

// head is what stands in the bytes of a datagram ahead of its shard, each number as wide as it stands there.
type head struct {
	Mark, Version byte
	Block         uint32
	Index, K, M   byte
	Size          uint16
	Length        uint32
}

// headOf is the head of a datagram in a configuration's stream.
func headOf(c api.Config, d api.Datagram) head {
	return head{'W', 1, uint32(d.Block), byte(d.Index), byte(c.K), byte(c.M), uint16(c.Size), uint32(d.Length)}
}

// sealed is the bytes of a head and a shard, with their sum behind them, whether or not there is such a datagram.
func sealed(h head, shard []byte) []byte {
	var b bytes.Buffer
	binary.Write(&b, binary.BigEndian, h)
	b.Write(shard)
	return resealed(append(b.Bytes(), 0, 0, 0, 0))
}

// resealed is bytes with a right sum as their last four.
func resealed(b []byte) []byte {
	sum := fnv.New32a()
	sum.Write(b[:len(b)-4])
	return sum.Sum(bytes.Clone(b[:len(b)-4]))
}

// sent is the datagrams of a block by the words of P11.
func sent(c api.Config, block int, payload []byte) [][]byte {
	filled := append(bytes.Clone(payload), make([]byte, c.K*c.Size-len(payload))...)
	var out [][]byte
	for i := range c.K + c.M {
		shard := make([]byte, c.Size)
		for j := range c.K {
			part := filled[j*c.Size : (j+1)*c.Size]
			factor := 0
			if i == j {
				factor = 1
			}
			if i >= c.K {
				factor, _ = gf.Inv(i ^ j)
			}
			shard, _ = gf.Add(shard, factor, part)
		}
		out = append(out, sealed(headOf(c, api.Datagram{Block: block, Index: i, Length: len(payload)}), shard))
	}
	return out
}

// drawnConfig is a right configuration; now and then one at a bound.
func drawnConfig(r *rand.Rand) api.Config {
	c := api.Config{K: 1 + r.Intn(6), M: r.Intn(5), Size: 1 + r.Intn(9)}
	if r.Intn(20) == 0 {
		c.K = 1 + r.Intn(api.MaxShards)
		c.M = api.MaxShards - c.K
	}
	if r.Intn(20) == 0 {
		c.Size = api.MaxSize - r.Intn(2)
	}
	c.Window, c.Patience = 1+r.Intn(api.MaxWindow), 1+r.Intn(api.MaxPatience)
	c.Workers, c.Room = 1+r.Intn(api.MaxWorkers), r.Intn(api.MaxRoom+1)
	return c
}

// drawnDatagram is one that Put makes into bytes.
func drawnDatagram(r *rand.Rand, c api.Config) api.Datagram {
	return api.Datagram{Block: r.Intn(api.MaxBlock + 1), Index: r.Intn(c.K + c.M), Length: r.Intn(c.K*c.Size + 1), Shard: drawn(r, c.Size)}
}

func drawn(r *rand.Rand, length int) []byte {
	b := make([]byte, length)
	r.Read(b)
	return b
}

func equal(a, b [][]byte) bool {
	return slices.EqualFunc(a, b, bytes.Equal)
}

func same(a, b api.Datagram) bool {
	return a.Block == b.Block && a.Index == b.Index && a.Length == b.Length && bytes.Equal(a.Shard, b.Shard)
}

// zero tells whether a datagram is a struct of zeros.
func zero(d api.Datagram) bool {
	return d.Block == 0 && d.Index == 0 && d.Length == 0 && d.Shard == nil
}

func sender(t *testing.T, c api.Config) *weave.Sender {
	t.Helper()
	s, e := weave.NewSender(c)
	if s == nil || e != api.OK {
		t.Fatalf("P10: NewSender(%+v) = %v, %d", c, s, e)
	}
	return s
}

// sends asks a sender for its next block, and holds what it answers against the words.
func sends(t *testing.T, s *weave.Sender, c api.Config, block int, payload []byte) {
	t.Helper()
	if l, e := s.Send(payload); e != api.OK || !equal(l, sent(c, block, payload)) {
		t.Fatalf("P11: with %+v, Send of %d bytes as block %d = %q, %d", c, len(payload), block, l, e)
	}
}
