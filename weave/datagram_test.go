package weave_test

import (
	"bytes"
	"math"
	"math/rand"
	"testing"

	"weave/api"
	"weave/weave"
)

func TestPutByBytes(t *testing.T) {
	for _, k := range []struct {
		c    api.Config
		d    api.Datagram
		want string
	}{
		{small(), api.Datagram{Length: 3, Shard: []byte("ab")}, "W\x01\x00\x00\x00\x00\x00\x02\x01\x00\x02\x00\x00\x00\x03ab\x6c\xc1\x9c\xba"},
		{small(), api.Datagram{Index: 2, Length: 3, Shard: []byte("\x9f\x31")}, "W\x01\x00\x00\x00\x00\x02\x02\x01\x00\x02\x00\x00\x00\x03\x9f\x31\xce\xde\xc5\xa3"},
	} {
		if b, e := weave.Put(k.c, k.d); string(b) != k.want || e != api.OK {
			t.Errorf("P8: Put(%+v) = %q, %d, want %q", k.d, b, e, k.want)
		}
	}
	// Of each number that has several bytes, all of them another.
	wide := api.Config{K: 200, M: 7, Size: 0x0304, Window: 1, Patience: 1, Workers: 1}
	d := api.Datagram{Block: 0x41424344, Index: 206, Length: 0x020501, Shard: bytes.Repeat([]byte{9}, 0x0304)}
	b, e := weave.Put(wide, d)
	if e != api.OK || len(b) != 0x0304+19 || string(b[:16]) != "W\x01ABCD\xce\xc8\x07\x03\x04\x00\x02\x05\x01\x09" {
		t.Errorf("P8: Put = %q, %d", b, e)
	}
}

// bounds are datagrams at the bounds of what Put takes.
func bounds(c api.Config) []api.Datagram {
	shard := bytes.Repeat([]byte{7}, c.Size)
	return []api.Datagram{
		{Shard: shard}, {Block: 1, Shard: shard}, {Block: api.MaxBlock - 1, Shard: shard}, {Block: api.MaxBlock, Shard: shard},
		{Index: c.K - 1, Shard: shard}, {Index: c.K + c.M - 1, Shard: shard},
		{Length: 1, Shard: shard}, {Length: c.K*c.Size - 1, Shard: shard}, {Length: c.K * c.Size, Shard: shard},
		{Block: api.MaxBlock, Index: c.K + c.M - 1, Length: c.K * c.Size, Shard: shard},
	}
}

func edges() []api.Config {
	return []api.Config{
		small(),
		{K: 1, M: 0, Size: 1, Window: 1, Patience: 1, Workers: 1, Room: 0},
		{K: 255, M: 0, Size: 1024, Window: 16, Patience: 16, Workers: 16, Room: 16},
		{K: 1, M: 254, Size: 1024, Window: 16, Patience: 16, Workers: 16, Room: 16},
		{K: 100, M: 155, Size: 256, Window: 3, Patience: 4, Workers: 5, Room: 6},
	}
}

// putAndGet holds Put and Get of a datagram against the words.
func putAndGet(t *testing.T, c api.Config, d api.Datagram) {
	t.Helper()
	b, e := weave.Put(c, d)
	if e != api.OK || !bytes.Equal(b, sealed(headOf(c, d), d.Shard)) {
		t.Fatalf("P8: with %+v, Put(%+v) = %q, %d", c, d, b, e)
	}
	if x, e := weave.Get(c, b); e != api.OK || !same(x, d) {
		t.Fatalf("P9: with %+v, Get of what Put made of %+v = %+v, %d", c, d, x, e)
	}
}

func TestPutAndGetAtBounds(t *testing.T) {
	for _, c := range edges() {
		for _, d := range bounds(c) {
			putAndGet(t, c, d)
		}
	}
}

func TestPutAndGetByTheWords(t *testing.T) {
	r := rand.New(rand.NewSource(1))
	for range 3000 {
		c := drawnConfig(r)
		putAndGet(t, c, drawnDatagram(r, c))
	}
}

// What a receiver or a codec is set to stands in no datagram.
func TestPutAndGetDoNotHangOnTheReceiver(t *testing.T) {
	r := rand.New(rand.NewSource(2))
	for range 200 {
		c := drawnConfig(r)
		d := drawnDatagram(r, c)
		other := drawnConfig(r)
		other.K, other.M, other.Size = c.K, c.M, c.Size
		one, _ := weave.Put(c, d)
		two, e := weave.Put(other, d)
		if x, f := weave.Get(other, one); e != api.OK || f != api.OK || !bytes.Equal(one, two) || !same(x, d) {
			t.Fatalf("P8, P9: with %+v and %+v: %q, %q, %d, %+v, %d", c, other, one, two, e, x, f)
		}
	}
}

// beyond are datagrams of which one number, or the shard, is not what Put takes.
func beyond(c api.Config) []api.Datagram {
	shard := make([]byte, c.Size)
	out := []api.Datagram{
		{Block: api.MaxBlock + 1, Shard: shard}, {Index: c.K + c.M, Shard: shard}, {Index: 255, Shard: shard}, {Length: c.K*c.Size + 1, Shard: shard},
		{}, {Shard: []byte{}}, {Shard: shard[1:]}, {Shard: make([]byte, c.Size+1)}, {Shard: make([]byte, c.Size+65536)},
	}
	for _, far := range []int{math.MinInt, -1 << 32, -1, 1 << 32, 1<<32 + 1, math.MaxInt} {
		out = append(out, api.Datagram{Block: far, Shard: shard}, api.Datagram{Index: far, Shard: shard}, api.Datagram{Length: far, Shard: shard}, api.Datagram{Block: far, Index: far, Length: far, Shard: shard})
	}
	return out
}

func TestPutWrong(t *testing.T) {
	for _, c := range edges() {
		for _, d := range beyond(c) {
			if b, e := weave.Put(c, d); b != nil || e != api.ErrArg {
				t.Errorf("P8, P1: with %+v, Put(%d, %d, %d, %d bytes) = %q, %d, want nil, ErrArg", c, d.Block, d.Index, d.Length, len(d.Shard), b, e)
			}
		}
	}
}

// refused asks Get for bytes that it must refuse.
func refused(t *testing.T, c api.Config, b []byte, want api.Errno, why string) {
	t.Helper()
	if d, e := weave.Get(c, b); e != want || !zero(d) {
		t.Errorf("P9, P1: %s: Get(%q) = %+v, %d, want %d", why, b, d, e, want)
	}
}

func TestGetOfTooFewOrTooMany(t *testing.T) {
	c := small()
	good := sealed(headOf(c, api.Datagram{Length: 3}), []byte("ab"))
	refused(t, c, nil, api.ErrFrame, "nil")
	refused(t, c, []byte{}, api.ErrFrame, "nothing")
	for i := range good {
		refused(t, c, good[:i], api.ErrFrame, "the end is missing")
		if i >= 4 {
			refused(t, c, resealed(good[:i]), api.ErrFrame, "the end is missing, the sum is right")
		}
	}
	for i := 1; i < 40; i++ {
		long := append(bytes.Clone(good), make([]byte, i)...)
		refused(t, c, long, api.ErrFrame, "too long")
		refused(t, c, resealed(long), api.ErrFrame, "too long, the sum is right")
	}
	short := headOf(c, api.Datagram{})
	short.Size = 0
	refused(t, c, sealed(short, nil)[:18], api.ErrFrame, "18 bytes")
	refused(t, c, sealed(short, nil), api.ErrOther, "19 bytes, of Size 0")
}

// What is behind the bytes that are handed in, and would make them whole, is not looked at.
func TestGetLooksAtNothingBehind(t *testing.T) {
	good := sealed(headOf(small(), api.Datagram{Length: 3}), []byte("ab"))
	for i := range good {
		refused(t, small(), good[:i:len(good)], api.ErrFrame, "a piece")
	}
}

func TestGetOfAnotherBeginning(t *testing.T) {
	c := small()
	for n := range 256 {
		if n != 'W' {
			h := headOf(c, api.Datagram{})
			h.Mark = byte(n)
			refused(t, c, sealed(h, []byte("ab")), api.ErrFrame, "another first byte")
		}
		if n != 1 {
			h := headOf(c, api.Datagram{})
			h.Version = byte(n)
			refused(t, c, sealed(h, []byte("ab")), api.ErrFrame, "another second byte")
		}
	}
}

func TestGetOfAWrongSum(t *testing.T) {
	c := small()
	good := sealed(headOf(c, api.Datagram{Length: 3}), []byte("ab"))
	for i := len(good) - 4; i < len(good); i++ {
		for n := 1; n < 256; n++ {
			b := bytes.Clone(good)
			b[i] ^= byte(n)
			refused(t, c, b, api.ErrFrame, "a wrong sum")
		}
	}
	end := len(good) - 4
	turned := append(bytes.Clone(good[:end]), good[end+3], good[end+2], good[end+1], good[end])
	refused(t, c, turned, api.ErrFrame, "the sum with its lowest byte first")
	refused(t, c, append(bytes.Clone(good[:end]), 0, 0, 0, 0), api.ErrFrame, "no sum")
}

func TestGetOfAnotherStream(t *testing.T) {
	c := api.Config{K: 5, M: 3, Size: 4, Window: 1, Patience: 1, Workers: 1}
	for n := range 256 {
		for _, change := range []func(h *head){func(h *head) { h.K = byte(n) }, func(h *head) { h.M = byte(n) }, func(h *head) { h.Size = uint16(n) }, func(h *head) { h.Size = uint16(n)<<8 | 4 }} {
			h := headOf(c, api.Datagram{})
			change(&h)
			if h != headOf(c, api.Datagram{}) {
				refused(t, c, sealed(h, make([]byte, h.Size)), api.ErrOther, "another stream")
			}
		}
	}
	turned := headOf(c, api.Datagram{})
	turned.K, turned.M = 3, 5
	refused(t, c, sealed(turned, make([]byte, 4)), api.ErrOther, "K and M the other way round")
}

// Bytes with a right sum that tell numbers which Put refuses.
func TestGetOfWhatPutNeverMakes(t *testing.T) {
	for _, c := range edges() {
		for _, d := range []api.Datagram{
			{Block: api.MaxBlock + 1}, {Block: 1<<32 - 1}, {Block: 1<<31 + 5}, {Length: c.K*c.Size + 1}, {Length: 1 << 31}, {Length: 1<<32 - 1},
			{Index: c.K + c.M}, {Index: 255}, {Block: 1<<32 - 1, Index: 255, Length: 1<<32 - 1},
		} {
			refused(t, c, sealed(headOf(c, d), make([]byte, c.Size)), api.ErrFrame, "Put makes no such datagram")
		}
	}
}

func TestGetErrorsInTheirOrder(t *testing.T) {
	c := small()
	h := headOf(c, api.Datagram{Block: 1 << 31, Index: 3, Length: 5})
	h.K = 3
	other := sealed(h, []byte("ab"))
	refused(t, c, other, api.ErrOther, "another stream, and no numbers of this one")
	wrongSum := bytes.Clone(other)
	wrongSum[16]++
	refused(t, c, wrongSum, api.ErrFrame, "a wrong sum, and another stream")
	h.Mark = 'w'
	refused(t, c, sealed(h, []byte("ab")), api.ErrFrame, "another beginning, and another stream")
	h.Mark = 'W'
	refused(t, c, sealed(h, []byte("abc")), api.ErrFrame, "a byte too many, and another stream")
	c.Room = -1
	refused(t, c, other, api.ErrArg, "a configuration that is not right, and another stream")
	refused(t, c, wrongSum, api.ErrArg, "a configuration that is not right, and a wrong sum")
	refused(t, c, nil, api.ErrArg, "a configuration that is not right, and nothing")
}

func TestOneByteChanged(t *testing.T) {
	r := rand.New(rand.NewSource(3))
	for range 60 {
		c := drawnConfig(r)
		b, _ := weave.Put(c, drawnDatagram(r, c))
		for at := range b {
			was := b[at]
			b[at] ^= byte(1 + r.Intn(255))
			if d, e := weave.Get(c, b); e == api.OK || !zero(d) {
				t.Fatalf("P18: with byte %d changed, Get(%q) = %+v, %d", at, b, d, e)
			}
			b[at] = was
		}
	}
	c := small()
	good, _ := weave.Put(c, api.Datagram{Block: 77, Index: 1, Length: 4, Shard: []byte("\x00\xff")})
	for at := range good {
		for n := 1; n < 256; n++ {
			b := bytes.Clone(good)
			b[at] ^= byte(n)
			if d, e := weave.Get(c, b); e != api.ErrFrame || !zero(d) {
				t.Fatalf("P18: with byte %d changed, Get(%q) = %+v, %d", at, b, d, e)
			}
		}
	}
}

// getError is P9 by its words, of a right configuration.
func getError(c api.Config, b []byte) api.Errno {
	if len(b) < 19 || b[0] != 87 || b[1] != 1 || len(b) != int(b[9])*256+int(b[10])+19 || !bytes.Equal(b, resealed(b)) {
		return api.ErrFrame
	}
	if int(b[7]) != c.K || int(b[8]) != c.M || len(b)-19 != c.Size {
		return api.ErrOther
	}
	length := int(b[11])<<24 + int(b[12])<<16 + int(b[13])<<8 + int(b[14])
	if b[2] > 127 || int(b[6]) >= c.K+c.M || length > c.K*c.Size {
		return api.ErrFrame
	}
	return api.OK
}

// Datagrams with a few bytes changed, most of them with a right sum again, and bytes of any kind.
func TestGetOfAnyBytes(t *testing.T) {
	r := rand.New(rand.NewSource(4))
	met := map[api.Errno]int{}
	for range 20000 {
		c := drawnConfig(r)
		b := drawn(r, r.Intn(40))
		if r.Intn(10) > 0 {
			b = sealed(headOf(c, drawnDatagram(r, c)), drawn(r, c.Size))
			for range r.Intn(3) {
				b[r.Intn(19)] = byte(r.Intn(256))
			}
			if r.Intn(5) > 0 {
				b = resealed(b)
			}
		}
		d, e := weave.Get(c, b)
		met[e]++
		if e != getError(c, b) || e != api.OK && !zero(d) {
			t.Fatalf("P9, P1: with %+v, Get(%q) = %+v, %d", c, b, d, e)
		}
		if e == api.OK {
			putAndGet(t, c, d)
			if again, _ := weave.Put(c, d); !bytes.Equal(again, b) {
				t.Fatalf("P9: Get(%q) = %+v, which Put makes into %q", b, d, again)
			}
		}
	}
	for _, e := range []api.Errno{api.OK, api.ErrFrame, api.ErrOther} {
		if met[e] < 100 {
			t.Errorf("the test met %d only %d times", e, met[e])
		}
	}
}

func FuzzGet(f *testing.F) {
	f.Add(sealed(headOf(small(), api.Datagram{Length: 3}), []byte("ab")))
	f.Fuzz(func(t *testing.T, b []byte) {
		if d, e := weave.Get(small(), b); e != getError(small(), b) || e != api.OK && !zero(d) {
			t.Errorf("P9: Get(%q) = %+v, %d", b, d, e)
		}
	})
}
