package weave_test

import (
	"bytes"
	"runtime"
	"sync"
	"testing"
	"time"

	"weave/api"
	"weave/weave"
)

// inside lays bytes into a longer list, and gives them as a piece of it with spare room.
func inside(b []byte) ([]byte, []byte) {
	whole := append([]byte("before"), b...)
	whole = append(whole, "what stands behind, and is as long as a small datagram"...)
	return whole, whole[6 : 6+len(b)]
}

// overwrite writes into bytes and into their spare room.
func overwrite(b []byte, with byte) {
	b = b[:cap(b)]
	for i := range b {
		b[i] = with
	}
}

func TestPutLeavesTheShardAlone(t *testing.T) {
	whole, shard := inside([]byte("ab"))
	was := bytes.Clone(whole)
	d := api.Datagram{Block: 5, Index: 1, Length: 3, Shard: shard}
	b, _ := weave.Put(small(), d)
	want := bytes.Clone(b)
	if !bytes.Equal(whole, was) {
		t.Fatalf("P1: Put wrote into the shard, or behind it: %q", whole)
	}
	overwrite(b, 99)
	if !bytes.Equal(whole, was) {
		t.Fatalf("P1: a write into what Put gave is one into the shard: %q", whole)
	}
	b, _ = weave.Put(small(), d)
	overwrite(whole, 98)
	if !bytes.Equal(b, want) {
		t.Errorf("P1: what Put gave hangs on the shard: %q, want %q", b, want)
	}
	weave.Put(small(), api.Datagram{Block: -1, Shard: shard})
	weave.Put(api.Config{}, d)
	if again, _ := weave.Put(small(), d); bytes.Equal(again, want) || !bytes.Equal(b, want) {
		t.Errorf("P1: one answer of Put hangs on another: %q, %q", b, again)
	}
}

func TestGetLeavesTheBytesAlone(t *testing.T) {
	good, _ := weave.Put(small(), api.Datagram{Block: 5, Index: 1, Length: 3, Shard: []byte("ab")})
	whole, b := inside(good)
	was := bytes.Clone(whole)
	one, _ := weave.Get(small(), b)
	two, _ := weave.Get(small(), b)
	weave.Get(changed(func(c *api.Config) { c.K = 3 }), b)
	weave.Get(small(), b[:20])
	weave.Get(small(), whole)
	if !bytes.Equal(whole, was) {
		t.Fatalf("P1: Get wrote into the bytes, or behind them: %q", whole)
	}
	overwrite(one.Shard, 99)
	if !bytes.Equal(whole, was) || string(two.Shard) != "ab" {
		t.Fatalf("P1: a write into the shard that Get gave is one into %q or %q", whole, two.Shard)
	}
	overwrite(whole, 98)
	if string(two.Shard) != "ab" {
		t.Errorf("P1: the shard that Get gave hangs on the bytes: %q", two.Shard)
	}
}

func TestSendLeavesThePayloadAlone(t *testing.T) {
	c := changed(func(c *api.Config) { c.K, c.M, c.Size, c.Workers = 3, 2, 4, 2 })
	s := sender(t, c)
	for block, text := range []string{"", "a", "abcd", "abcdefghij", "abcdefghijkl"} {
		whole, payload := inside([]byte(text))
		was := bytes.Clone(whole)
		want := sent(c, block, []byte(text))
		s.Send(bytes.Repeat([]byte{1}, 13))
		l, _ := s.Send(payload)
		if !bytes.Equal(whole, was) {
			t.Fatalf("P1: Send wrote into the payload, or behind it: %q", whole)
		}
		overwrite(whole, 99)
		if !equal(l, want) {
			t.Fatalf("P1: what Send gave hangs on the payload: %q, want %q", l, want)
		}
	}
}

func TestDatagramsOfASendShareNothing(t *testing.T) {
	c := changed(func(c *api.Config) { c.K, c.M, c.Size = 3, 2, 4 })
	s := sender(t, c)
	payload := []byte("abcdefghijkl")
	for block := range 3 {
		l, _ := s.Send(payload)
		want := sent(c, block, payload)
		for i := range l {
			l[i] = append(l[i], "more than that"...)[:len(l[i])]
			overwrite(l[i], 99)
			for j := i + 1; j < len(l); j++ {
				if !bytes.Equal(l[j], want[j]) {
					t.Fatalf("P1: a write into datagram %d changed datagram %d: %q", i, j, l[j])
				}
			}
		}
		all := l[:cap(l)]
		for i := range all {
			overwrite(all[i], 98)
			all[i] = nil
		}
		if string(payload) != "abcdefghijkl" {
			t.Fatalf("P1: a write into what Send gave is one into the payload: %q", payload)
		}
	}
	sends(t, s, c, 3, payload)
}

// What a datagram was sent in is still there when the next block has been sent.
func TestWhatWasSentStays(t *testing.T) {
	s := sender(t, small())
	var kept [][][]byte
	for block := range 5 {
		l, _ := s.Send([]byte{byte(block)})
		kept = append(kept, l)
	}
	for block, l := range kept {
		if !equal(l, sent(small(), block, []byte{byte(block)})) {
			t.Errorf("P1: block %d is %q now", block, l)
		}
	}
}

func TestSendersAtTheSameTime(t *testing.T) {
	c := changed(func(c *api.Config) { c.K, c.M, c.Size, c.Workers = 3, 2, 40, 4 })
	answers := make([][][]byte, 6)
	var group sync.WaitGroup
	for i := range answers {
		s := sender(t, c)
		group.Go(func() {
			for range 20 {
				l, _ := s.Send([]byte{byte(i)})
				answers[i] = l
			}
		})
	}
	group.Wait()
	for i, l := range answers {
		if !equal(l, sent(c, 19, []byte{byte(i)})) {
			t.Errorf("P1: sender %d hangs on the others: %q", i, l)
		}
	}
}

func TestNoWorkerIsLeft(t *testing.T) {
	c := changed(func(c *api.Config) { c.Size, c.Workers = 40, api.MaxWorkers })
	s := sender(t, c)
	before := runtime.NumGoroutine()
	for range 50 {
		s.Send([]byte("abc"))
	}
	// A goroutine that has called Done may need a moment more until it is not counted.
	for range 1000 {
		if runtime.NumGoroutine() <= before {
			return
		}
		time.Sleep(time.Millisecond)
	}
	t.Errorf("%d goroutines were there before, %d are now", before, runtime.NumGoroutine())
}
