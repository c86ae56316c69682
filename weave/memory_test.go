package weave_test

import (
	"bytes"
	"math/rand"
	"runtime"
	"sync"
	"testing"
	"time"

	"weave/api"
	"weave/weave"
)

// inside lays bytes into a longer list, and gives them as a piece of it with spare room.
func inside(b []byte) ([]byte, []byte) {
	whole := append([]byte("before"), b...)
	whole = append(whole, "what stands behind, and is as long as a small datagram"...)
	return whole, whole[6 : 6+len(b)]
}

// overwrite writes into bytes and into their spare room.
func overwrite(b []byte, with byte) {
	b = b[:cap(b)]
	for i := range b {
		b[i] = with
	}
}

func TestPutLeavesTheShardAlone(t *testing.T) {
	whole, shard := inside([]byte("ab"))
	was := bytes.Clone(whole)
	d := api.Datagram{Block: 5, Index: 1, Length: 3, Shard: shard}
	b, _ := weave.Put(small(), d)
	want := bytes.Clone(b)
	if !bytes.Equal(whole, was) {
		t.Fatalf("P1: Put wrote into the shard, or behind it: %q", whole)
	}
	overwrite(b, 99)
	if !bytes.Equal(whole, was) {
		t.Fatalf("P1: a write into what Put gave is one into the shard: %q", whole)
	}
	b, _ = weave.Put(small(), d)
	overwrite(whole, 98)
	if !bytes.Equal(b, want) {
		t.Errorf("P1: what Put gave hangs on the shard: %q, want %q", b, want)
	}
	weave.Put(small(), api.Datagram{Block: -1, Shard: shard})
	weave.Put(api.Config{}, d)
	if again, _ := weave.Put(small(), d); bytes.Equal(again, want) || !bytes.Equal(b, want) {
		t.Errorf("P1: one answer of Put hangs on another: %q, %q", b, again)
	}
}

func TestGetLeavesTheBytesAlone(t *testing.T) {
	good, _ := weave.Put(small(), api.Datagram{Block: 5, Index: 1, Length: 3, Shard: []byte("ab")})
	whole, b := inside(good)
	was := bytes.Clone(whole)
	one, _ := weave.Get(small(), b)
	two, _ := weave.Get(small(), b)
	weave.Get(changed(func(c *api.Config) { c.K = 3 }), b)
	weave.Get(small(), b[:20])
	weave.Get(small(), whole)
	if !bytes.Equal(whole, was) {
		t.Fatalf("P1: Get wrote into the bytes, or behind them: %q", whole)
	}
	overwrite(one.Shard, 99)
	if !bytes.Equal(whole, was) || string(two.Shard) != "ab" {
		t.Fatalf("P1: a write into the shard that Get gave is one into %q or %q", whole, two.Shard)
	}
	overwrite(whole, 98)
	if string(two.Shard) != "ab" {
		t.Errorf("P1: the shard that Get gave hangs on the bytes: %q", two.Shard)
	}
}

func TestSendLeavesThePayloadAlone(t *testing.T) {
	c := changed(func(c *api.Config) { c.K, c.M, c.Size, c.Workers = 3, 2, 4, 2 })
	s := sender(t, c)
	for block, text := range []string{"", "a", "abcd", "abcdefghij", "abcdefghijkl"} {
		whole, payload := inside([]byte(text))
		was := bytes.Clone(whole)
		want := sent(c, block, []byte(text))
		s.Send(bytes.Repeat([]byte{1}, 13))
		l, _ := s.Send(payload)
		if !bytes.Equal(whole, was) {
			t.Fatalf("P1: Send wrote into the payload, or behind it: %q", whole)
		}
		overwrite(whole, 99)
		if !equal(l, want) {
			t.Fatalf("P1: what Send gave hangs on the payload: %q, want %q", l, want)
		}
	}
}

func TestDatagramsOfASendShareNothing(t *testing.T) {
	c := changed(func(c *api.Config) { c.K, c.M, c.Size = 3, 2, 4 })
	s := sender(t, c)
	payload := []byte("abcdefghijkl")
	for block := range 3 {
		l, _ := s.Send(payload)
		want := sent(c, block, payload)
		for i := range l {
			l[i] = append(l[i], "more than that"...)[:len(l[i])]
			overwrite(l[i], 99)
			for j := i + 1; j < len(l); j++ {
				if !bytes.Equal(l[j], want[j]) {
					t.Fatalf("P1: a write into datagram %d changed datagram %d: %q", i, j, l[j])
				}
			}
		}
		all := l[:cap(l)]
		for i := range all {
			overwrite(all[i], 98)
			all[i] = nil
		}
		if string(payload) != "abcdefghijkl" {
			t.Fatalf("P1: a write into what Send gave is one into the payload: %q", payload)
		}
	}
	sends(t, s, c, 3, payload)
}

// What a datagram was sent in is still there when the next block has been sent.
func TestWhatWasSentStays(t *testing.T) {
	s := sender(t, small())
	var kept [][][]byte
	for block := range 5 {
		l, _ := s.Send([]byte{byte(block)})
		kept = append(kept, l)
	}
	for block, l := range kept {
		if !equal(l, sent(small(), block, []byte{byte(block)})) {
			t.Errorf("P1: block %d is %q now", block, l)
		}
	}
}

func TestSendersAtTheSameTime(t *testing.T) {
	c := changed(func(c *api.Config) { c.K, c.M, c.Size, c.Workers = 3, 2, 40, 4 })
	answers := make([][][]byte, 6)
	var group sync.WaitGroup
	for i := range answers {
		s := sender(t, c)
		group.Go(func() {
			for range 20 {
				l, _ := s.Send([]byte{byte(i)})
				answers[i] = l
			}
		})
	}
	group.Wait()
	for i, l := range answers {
		if !equal(l, sent(c, 19, []byte{byte(i)})) {
			t.Errorf("P1: sender %d hangs on the others: %q", i, l)
		}
	}
}

func TestTakeLeavesTheBytesAlone(t *testing.T) {
	c := changed(func(c *api.Config) { c.K, c.M, c.Size, c.Workers = 3, 2, 4, 2 })
	l := blocks(c, "abcdefghijkl", "mnopq")
	r := receives(t, c)
	take := func(b []byte, want ...api.Block) {
		t.Helper()
		whole, piece := inside(b)
		was := bytes.Clone(whole)
		out, e := r.asked.Take(piece)
		if !bytes.Equal(whole, was) {
			t.Fatalf("P1: Take wrote into the bytes, or behind them: %q", whole)
		}
		overwrite(whole, 99)
		if !sameBlocks(out, want) {
			t.Fatalf("P1: what comes of Take hangs on bytes that were handed in: %v, %d, want %v", out, e, want)
		}
	}
	for i := range 5 {
		take(l[1][i])
		take(l[1][i])
	}
	take(nil)
	take(l[0][4])
	take(lone(c, 0, 3, 2))
	take(l[0][0][1:])
	take(l[0][3])
	take(l[0][1], given(0, "abcdefghijkl", "mnopq")...)
	take(l[0][1])
}

// The payloads of one answer, and of a later one, share nothing with each other or with what the receiver keeps.
func TestPayloadsShareNothing(t *testing.T) {
	c := changed(func(c *api.Config) { c.K, c.M, c.Window = 2, 2, 4 })
	payloads := []string{"abc", "", "defg", "h", "ijk", "lm"}
	l := blocks(c, payloads...)
	for _, used := range [][2]int{{0, 1}, {1, 0}, {0, 3}, {2, 1}, {3, 2}} {
		r := receives(t, c)
		for _, block := range []int{1, 2} {
			r.takes(l[block][used[0]])
			r.takes(l[block][used[1]])
		}
		r.takes(l[3][used[0]])
		r.takes(l[0][used[0]])
		out, _ := r.asked.Take(l[0][used[1]])
		for i := range out {
			if string(out[i].Payload) != payloads[i] {
				t.Fatalf("P1: payload %d is %q, want %q", i, out[i].Payload, payloads[i])
			}
			overwrite(out[i].Payload, 99)
			_ = append(out[i].Payload, "more than that"...)
		}
		overwriteBlocks(out)
		if len(out) != 3 || !equal(l[3], sent(c, 3, []byte("h"))) {
			t.Fatalf("P1: %d payloads were given out; what was handed in is %q", len(out), l[3])
		}
		out, _ = r.asked.Take(l[3][used[1]])
		if !sameBlocks(out, given(3, "h")) {
			t.Fatalf("P1: what comes out later hangs on what the caller wrote: %v", out)
		}
		overwriteBlocks(out)
		r.asked.Take(l[5][used[0]])
		r.asked.Take(l[5][used[1]])
		r.asked.Tick()
		if out = r.asked.Tick(); !sameBlocks(out, given(5, "lm")) {
			t.Fatalf("P1: what a Tick gives out hangs on what the caller wrote: %v", out)
		}
	}
}

// overwriteBlocks writes into a list of blocks, into their payloads, and into the spare room of all of these.
func overwriteBlocks(l []api.Block) {
	l = l[:cap(l)]
	for i := range l {
		overwrite(l[i].Payload, 98)
		l[i] = api.Block{Number: -1}
	}
}

// What was given out is still there when the next ones have been.
func TestWhatWasGivenOutStays(t *testing.T) {
	c := changed(func(c *api.Config) { c.Patience = 1 })
	r := receives(t, c)
	var kept []api.Block
	var payloads []string
	for block := range 20 {
		payload := string([]byte{byte(block), 'a', 'b', byte(block)}[:block%5])
		payloads = append(payloads, payload)
		l := sent(c, block, []byte(payload))
		r.asked.Take(l[block%3])
		out, _ := r.asked.Take(l[(block+1)%3])
		kept = append(kept, out...)
	}
	if !sameBlocks(kept, given(0, payloads...)) {
		t.Errorf("P1: what was given out is %v now", kept)
	}
}

func TestReceiversAreApart(t *testing.T) {
	random := rand.New(rand.NewSource(20))
	c := api.Config{K: 2, M: 2, Size: 3, Window: 3, Patience: 3, Workers: 2, Room: 1}
	receivers := make([]*receiver, 6)
	for i := range receivers {
		receivers[i] = receives(t, c)
	}
	for range 3000 {
		r := receivers[random.Intn(6)]
		if random.Intn(6) == 0 {
			r.tick()
			continue
		}
		base, _ := r.asked.Base()
		r.take(near(random, c, base))
	}
}

func TestReceiversAtTheSameTime(t *testing.T) {
	c := changed(func(c *api.Config) { c.K, c.M, c.Size, c.Workers, c.Room = 3, 2, 40, 4, 2 })
	answers := make([][]api.Block, 6)
	var group sync.WaitGroup
	for i := range answers {
		r := receives(t, c)
		group.Go(func() {
			for block := range 20 {
				for _, b := range sent(c, block, []byte{byte(i), byte(block)})[i%3:] {
					out, _ := r.asked.Take(b)
					answers[i] = append(answers[i], out...)
				}
				r.asked.Tick()
			}
		})
	}
	group.Wait()
	for i, l := range answers {
		if len(l) != 20 {
			t.Fatalf("P1: receiver %d gave %d blocks out", i, len(l))
		}
		for block, b := range l {
			if b.Number != block || !bytes.Equal(b.Payload, []byte{byte(i), byte(block)}) {
				t.Errorf("P1: receiver %d hangs on the others: block %d is %v", i, block, b)
			}
		}
	}
}

func TestNoWorkerIsLeft(t *testing.T) {
	c := changed(func(c *api.Config) { c.Size, c.Workers = 40, api.MaxWorkers })
	s, r := sender(t, c), receives(t, c)
	before := runtime.NumGoroutine()
	for range 50 {
		l, _ := s.Send([]byte("abc"))
		for _, b := range l[1:] {
			r.asked.Take(b)
		}
		r.asked.Tick()
	}
	if base, _ := r.asked.Base(); base != 50 {
		t.Fatalf("P12: the base is %d behind 50 blocks", base)
	}
	// A goroutine that has called Done may need a moment more until it is not counted.
	for range 1000 {
		if runtime.NumGoroutine() <= before {
			return
		}
		time.Sleep(time.Millisecond)
	}
	t.Errorf("%d goroutines were there before, %d are now", before, runtime.NumGoroutine())
}
