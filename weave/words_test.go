package weave_test

import (
	"bytes"
	"slices"
	"testing"

	"weave/api"
	"weave/codec"
	"weave/weave"
)

// words is a receiver by the words of P12 to P14: it keeps all that has come of each open block, in its order, and makes a block only when it is given out.
type words struct {
	c            api.Config
	base, waited int
	come         map[int][]api.Datagram
}

func (w *words) take(b []byte) ([]api.Block, api.Errno) {
	d, e := weave.Get(w.c, b)
	if e != api.OK {
		return nil, e
	}
	if d.Block < w.base {
		return nil, api.ErrLate
	}
	if d.Block >= w.base+w.c.Window {
		return nil, api.ErrEarly
	}
	for _, x := range w.come[d.Block] {
		if x.Index == d.Index {
			return nil, api.ErrTwice
		}
	}
	for _, x := range w.come[d.Block] {
		if x.Length != d.Length {
			return nil, api.ErrOdd
		}
	}
	w.come[d.Block] = append(w.come[d.Block], d)
	return w.givenOut(), api.OK
}

func (w *words) tick() []api.Block {
	if len(w.come) == 0 {
		return nil
	}
	w.waited++
	if w.waited != w.c.Patience {
		return nil
	}
	delete(w.come, w.base)
	w.base++
	w.waited = 0
	return w.givenOut()
}

func (w *words) givenOut() []api.Block {
	var out []api.Block
	for len(w.come[w.base]) >= w.c.K {
		out = append(out, api.Block{Number: w.base, Payload: w.payload(w.come[w.base][:w.c.K])})
		delete(w.come, w.base)
		w.base++
		w.waited = 0
	}
	return out
}

func (w *words) payload(used []api.Datagram) []byte {
	shards := make([][]byte, w.c.K+w.c.M)
	have := make([]bool, w.c.K+w.c.M)
	for _, d := range used {
		shards[d.Index], have[d.Index] = d.Shard, true
	}
	made, _ := codec.New(w.c.K, w.c.M, 1, 0)
	block, _ := made.Rebuild(shards, have)
	return slices.Concat(block[:w.c.K]...)[:used[0].Length]
}

func sameBlocks(a, b []api.Block) bool {
	return slices.EqualFunc(a, b, func(x, y api.Block) bool {
		return x.Number == y.Number && bytes.Equal(x.Payload, y.Payload)
	})
}

// given is blocks as they are given out, numbered from first on.
func given(first int, payloads ...string) []api.Block {
	var out []api.Block
	for i, payload := range payloads {
		out = append(out, api.Block{Number: first + i, Payload: []byte(payload)})
	}
	return out
}

// receiver is one that a test asks, and beside it one by the words that is asked the same.
type receiver struct {
	t     *testing.T
	asked *weave.Receiver
	words *words
}

func receives(t *testing.T, c api.Config) *receiver {
	t.Helper()
	r, e := weave.NewReceiver(c)
	if r == nil || e != api.OK {
		t.Fatalf("P10: NewReceiver(%+v) = %v, %d", c, r, e)
	}
	return &receiver{t, r, &words{c: c, come: map[int][]api.Datagram{}}}
}

// take holds Take, and Base behind it, against the words.
func (r *receiver) take(b []byte) ([]api.Block, api.Errno) {
	r.t.Helper()
	l, e := r.asked.Take(b)
	want, f := r.words.take(b)
	if !sameBlocks(l, want) || e != f || e != api.OK && l != nil {
		r.t.Fatalf("P12: with %+v, Take(%q) = %v, %d, want %v, %d", r.words.c, b, l, e, want, f)
	}
	r.stands(r.words.base, len(r.words.come))
	return l, e
}

// tick holds Tick, and Base behind it, against the words.
func (r *receiver) tick() []api.Block {
	r.t.Helper()
	l := r.asked.Tick()
	if want := r.words.tick(); !sameBlocks(l, want) {
		r.t.Fatalf("P13: with %+v, Tick = %v, want %v", r.words.c, l, want)
	}
	r.stands(r.words.base, len(r.words.come))
	return l
}

// takes takes a datagram that is not refused, by which these blocks are given out.
func (r *receiver) takes(b []byte, want ...api.Block) {
	r.t.Helper()
	if l, e := r.take(b); e != api.OK || !sameBlocks(l, want) {
		r.t.Fatalf("P12: with %+v, Take(%q) = %v, %d, want %v", r.words.c, b, l, e, want)
	}
}

// refuses takes bytes that have an error, and change nothing of what Base tells.
func (r *receiver) refuses(b []byte, want api.Errno) {
	r.t.Helper()
	base, open := r.asked.Base()
	if l, e := r.take(b); e != want || l != nil {
		r.t.Fatalf("P12, P1: with %+v and the base %d, Take(%q) = %v, %d, want nil, %d", r.words.c, base, b, l, e, want)
	}
	r.stands(base, open)
}

// ticks lets so many ticks go by of which nothing is to be seen.
func (r *receiver) ticks(count int) {
	r.t.Helper()
	base, open := r.asked.Base()
	for range count {
		if l := r.tick(); len(l) != 0 {
			r.t.Fatalf("P13: with %+v, Tick = %v, want nothing", r.words.c, l)
		}
		r.stands(base, open)
	}
}

// letsGo ticks once: a block is let go, and these are given out.
func (r *receiver) letsGo(want ...api.Block) {
	r.t.Helper()
	base, _ := r.asked.Base()
	if l := r.tick(); !sameBlocks(l, want) {
		r.t.Fatalf("P13: with %+v, Tick = %v, want %v", r.words.c, l, want)
	}
	if now, _ := r.asked.Base(); now != base+1+len(want) {
		r.t.Fatalf("P13, P14: with %+v, the base is %d behind a Tick that let block %d go and gave %d out", r.words.c, now, base, len(want))
	}
}

func (r *receiver) stands(base, open int) {
	r.t.Helper()
	if a, n := r.asked.Base(); a != base || n != open {
		r.t.Fatalf("P14: with %+v, Base = %d, %d, want %d, %d", r.words.c, a, n, base, open)
	}
}

// blocks is the datagrams of payloads, numbered from 0, by the words.
func blocks(c api.Config, payloads ...string) [][][]byte {
	var out [][][]byte
	for i, payload := range payloads {
		out = append(out, sent(c, i, []byte(payload)))
	}
	return out
}

// lone is the bytes of one datagram whose shard goes with no other.
func lone(c api.Config, block, index, length int) []byte {
	return sealed(headOf(c, api.Datagram{Block: block, Index: index, Length: length}), bytes.Repeat([]byte{'z'}, c.Size))
}
