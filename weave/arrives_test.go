package weave_test

import (
	"bytes"
	"math/rand"
	"testing"

	"weave/api"
	"weave/weave"
)

// drawnStream is the payloads of a sender, and their datagrams.
func drawnStream(t *testing.T, random *rand.Rand, c api.Config, count int) ([][]byte, [][][]byte) {
	t.Helper()
	s := sender(t, c)
	payloads := make([][]byte, count)
	datagrams := make([][][]byte, count)
	for i := range payloads {
		payloads[i] = drawn(random, random.Intn(c.K*c.Size+1))
		l, e := s.Send(payloads[i])
		if e != api.OK {
			t.Fatalf("P11: Send = %d", e)
		}
		datagrams[i] = l
	}
	return payloads, datagrams
}

// way is datagrams on their way: of each block at most lost are lost, any may be doubled, and none comes ahead of those of a block that is window or more before its own.
func way(random *rand.Rand, datagrams [][][]byte, lost, window int) [][]byte {
	left := make([][][]byte, len(datagrams))
	for i, l := range datagrams {
		for _, index := range random.Perm(len(l))[random.Intn(lost+1):] {
			for range 1 + random.Intn(3)/2 {
				left[i] = append(left[i], l[index])
			}
		}
		random.Shuffle(len(left[i]), func(a, b int) { left[i][a], left[i][b] = left[i][b], left[i][a] })
	}
	var out [][]byte
	for first := 0; first < len(left); {
		if len(left[first]) == 0 {
			first++
			continue
		}
		i := min(first+random.Intn(window), len(left)-1)
		if len(left[i]) > 0 {
			out = append(out, left[i][0])
			left[i] = left[i][1:]
		}
	}
	return out
}

func TestWhatIsSentArrives(t *testing.T) {
	random := rand.New(rand.NewSource(15))
	for range 400 {
		c := drawnConfig(random)
		if c.K*c.M*c.Size > 100000 {
			continue
		}
		payloads, datagrams := drawnStream(t, random, c, random.Intn(12))
		r := receives(t, c)
		r.arrives(way(random, datagrams, c.M, c.Window), payloads)
	}
}

// arrives takes what is on its way, by which each payload is given out just once, in its order, as it was.
func (r *receiver) arrives(way [][]byte, payloads [][]byte) {
	r.t.Helper()
	var out []api.Block
	for _, b := range way {
		l, _ := r.take(b)
		out = append(out, l...)
	}
	if len(out) != len(payloads) {
		r.t.Fatalf("P19: with %+v, %d of %d payloads were given out", r.words.c, len(out), len(payloads))
	}
	for i, b := range out {
		if b.Number != i || !bytes.Equal(b.Payload, payloads[i]) {
			r.t.Fatalf("P19: with %+v, payload %d is %d %q, want %q", r.words.c, i, b.Number, b.Payload, payloads[i])
		}
	}
	r.stands(len(payloads), 0)
}

// Of each block just M are lost, at the greatest blocks.
func TestGreatBlocksArrive(t *testing.T) {
	random := rand.New(rand.NewSource(16))
	for _, n := range [][3]int{{1, 254, 1024}, {255, 0, 1024}, {254, 1, 100}, {128, 127, 64}, {40, 215, 50}} {
		c := api.Config{K: n[0], M: n[1], Size: n[2], Window: 3, Patience: 1, Workers: 4, Room: 2}
		payloads, datagrams := drawnStream(t, random, c, 5)
		for i, l := range datagrams {
			datagrams[i] = l[c.M*(i%2):][:c.K]
		}
		r := receives(t, c)
		r.arrives(way(random, datagrams, 0, c.Window), payloads)
	}
}

// A long stream, to see that nothing is left behind in a receiver that would be seen later.
func TestALongStreamArrives(t *testing.T) {
	random := rand.New(rand.NewSource(17))
	c := api.Config{K: 3, M: 2, Size: 4, Window: 5, Patience: 1, Workers: 2, Room: 3}
	payloads, datagrams := drawnStream(t, random, c, 3000)
	r := receives(t, c)
	r.arrives(way(random, datagrams, c.M, c.Window), payloads)
}

// holds is what P20 says of every receiver, whatever comes.
type holds struct {
	t     *testing.T
	c     api.Config
	asked *weave.Receiver
	last  int
}

func (h *holds) of(l []api.Block) {
	h.t.Helper()
	for _, b := range l {
		if b.Number <= h.last {
			h.t.Fatalf("P20: with %+v, block %d was given out behind block %d", h.c, b.Number, h.last)
		}
		if len(b.Payload) > h.c.K*h.c.Size {
			h.t.Fatalf("P12: with %+v, a payload of %d bytes was given out", h.c, len(b.Payload))
		}
		h.last = b.Number
	}
	base, open := h.asked.Base()
	if open > h.c.Window || open < 0 || base <= h.last {
		h.t.Fatalf("P20: with %+v, the base is %d and %d blocks are open behind block %d", h.c, base, open, h.last)
	}
}

// near is a datagram at the receiver's window or a little beside it, right or wrong in any way.
func near(random *rand.Rand, c api.Config, base int) []byte {
	d := api.Datagram{Block: max(0, base+random.Intn(c.Window+4)-2), Index: random.Intn(c.K + c.M), Length: c.K * c.Size}
	if random.Intn(8) == 0 {
		d.Length = random.Intn(c.K*c.Size + 2)
	}
	b := sealed(headOf(c, d), drawn(random, c.Size))
	switch random.Intn(20) {
	case 0:
		b[random.Intn(len(b))] ^= byte(1 + random.Intn(255))
	case 1:
		b = b[:random.Intn(len(b))]
	case 2:
		b[random.Intn(len(b))] = byte(random.Intn(256))
		b = resealed(b)
	case 3:
		b = drawn(random, random.Intn(60))
	}
	return b
}

func TestWhateverComes(t *testing.T) {
	random := rand.New(rand.NewSource(18))
	for range 400 {
		c := api.Config{K: 1 + random.Intn(4), M: random.Intn(4), Size: 1 + random.Intn(4), Window: 1 + random.Intn(5), Patience: 1 + random.Intn(5), Workers: 1 + random.Intn(3), Room: random.Intn(3)}
		r := receives(t, c)
		h := &holds{t, c, r.asked, -1}
		for range 300 {
			if random.Intn(5) == 0 {
				h.of(r.tick())
				continue
			}
			base, _ := r.asked.Base()
			l, _ := r.take(near(random, c, base))
			h.of(l)
		}
	}
}

// More are lost than can be, and ticks go by: what is given out is what was sent under its number.
func TestNoPayloadIsAnother(t *testing.T) {
	random := rand.New(rand.NewSource(19))
	givenOut := 0
	for range 200 {
		c := drawnConfig(random)
		c.K, c.M, c.Size = 1+c.K%5, c.M%4, 1+c.Size%9
		payloads, datagrams := drawnStream(t, random, c, 12)
		r := receives(t, c)
		h := &holds{t, c, r.asked, -1}
		honest := func(l []api.Block) {
			h.of(l)
			for _, b := range l {
				givenOut++
				if !bytes.Equal(b.Payload, payloads[b.Number]) {
					t.Fatalf("P20: with %+v, block %d was given out as %q, want %q", c, b.Number, b.Payload, payloads[b.Number])
				}
			}
		}
		for _, b := range way(random, datagrams, c.K+c.M, 1+random.Intn(2*c.Window)) {
			l, _ := r.take(b)
			honest(l)
			if random.Intn(3) == 0 {
				honest(r.tick())
			}
		}
	}
	if givenOut < 200 {
		t.Errorf("only %d blocks were given out, too few to tell anything", givenOut)
	}
}

// FuzzTake reads what comes out of bytes: their first choose the stream, a zero behind that is a tick, and any other is the length of what comes next, as it stands or with its head and sum set right.
func FuzzTake(f *testing.F) {
	c := small()
	for _, b := range blocks(c, "abc")[0] {
		f.Add(append([]byte{0, 1, byte(len(b))}, b...))
	}
	f.Add([]byte{7, 200, 0, 1, 2, 'a', 'b', 'c', 130, 5, 6, 7, 8, 0, 0, 0, 131, 1, 1, 9, 0})
	f.Fuzz(func(t *testing.T, b []byte) {
		if len(b) < 2 {
			return
		}
		c := api.Config{K: 1 + int(b[0]%3), M: int(b[0]/3) % 4, Size: 1 + int(b[0]/12)%3, Window: 1 + int(b[1]%4), Patience: 1 + int(b[1]/4)%3, Workers: 1 + int(b[1]/12)%2, Room: int(b[1]/24) % 3}
		r := receives(t, c)
		h := &holds{t, c, r.asked, -1}
		for b = b[2:]; len(b) > 0; {
			n := int(b[0])
			b = b[1:]
			if n == 0 {
				h.of(r.tick())
				continue
			}
			part := b[:min(n%64, len(b))]
			b = b[len(part):]
			if n >= 64 {
				part = set(c, part)
			}
			l, _ := r.take(part)
			h.of(l)
		}
	})
}

// set is a datagram whose block, index, length and shard stand in bytes.
func set(c api.Config, b []byte) []byte {
	b = append(bytes.Clone(b), make([]byte, 3+c.Size)...)
	d := api.Datagram{Block: int(b[0] % 16), Index: int(b[1]) % (c.K + c.M), Length: int(b[2]) % (c.K*c.Size + 1)}
	return sealed(headOf(c, d), b[3:3+c.Size])
}
