package weave

import (
	"testing"

	"weave/api"
)

// So many blocks take too long to be sent, so the next block's number is set.
func TestTheLastBlock(t *testing.T) {
	c := api.Config{K: 2, M: 1, Size: 2, Window: 2, Patience: 2, Workers: 1, Room: 1}
	s, _ := NewSender(c)
	s.next = api.MaxBlock - 1
	for _, block := range []int{api.MaxBlock - 1, api.MaxBlock} {
		l, e := s.Send([]byte("abc"))
		if len(l) != 3 || e != api.OK {
			t.Fatalf("P11: Send as block %d = %q, %d", block, l, e)
		}
		for i := range l {
			if d, e := Get(c, l[i]); d.Block != block || d.Index != i || d.Length != 3 || e != api.OK {
				t.Errorf("P11: datagram %d of block %d is %+v, %d", i, block, d, e)
			}
		}
	}
	for range 3 {
		for _, payload := range []string{"", "abc", "abcd"} {
			if l, e := s.Send([]byte(payload)); l != nil || e != api.ErrOver {
				t.Errorf("P11, P1: Send(%q) behind the last block = %q, %d, want nil, ErrOver", payload, l, e)
			}
		}
		if l, e := s.Send(nil); l != nil || e != api.ErrOver {
			t.Errorf("P11, P1: Send(nil) behind the last block = %q, %d, want nil, ErrOver", l, e)
		}
		if l, e := s.Send([]byte("abcde")); l != nil || e != api.ErrSize {
			t.Errorf("P11, P1: Send of too much behind the last block = %q, %d, want nil, ErrSize", l, e)
		}
	}
	other, _ := NewSender(c)
	if l, e := other.Send(nil); len(l) != 3 || e != api.OK {
		t.Errorf("P1: a sender hangs on another that has sent its last block: %q, %d", l, e)
	}
}

// A payload that is too long must not bring a sender nearer to its last block.
func TestAnErrorSendsNoBlock(t *testing.T) {
	s, _ := NewSender(api.Config{K: 1, M: 0, Size: 1, Window: 1, Patience: 1, Workers: 1})
	s.next = api.MaxBlock
	s.Send([]byte("ab"))
	if l, e := s.Send([]byte("a")); len(l) != 1 || e != api.OK {
		t.Errorf("P11, P1: Send of the last block behind an error = %q, %d", l, e)
	}
}

// begun is a receiver whose base is set, for the same reason, and the datagrams of the last three blocks there are.
func begun(t *testing.T, c api.Config, base int) (*Receiver, [][][]byte) {
	t.Helper()
	r, _ := NewReceiver(c)
	r.base = base
	s, _ := NewSender(c)
	s.next = api.MaxBlock - 2
	var l [][][]byte
	for _, payload := range []string{"abc", "", "defg"} {
		block, _ := s.Send([]byte(payload))
		l = append(l, block)
	}
	return r, l
}

func takes(t *testing.T, r *Receiver, b []byte, numbers int, e api.Errno, base int, open int) {
	t.Helper()
	l, f := r.Take(b)
	if len(l) != numbers || f != e {
		t.Fatalf("P12: Take = %v, %d, want %d blocks, %d", l, f, numbers, e)
	}
	if a, n := r.Base(); a != base || n != open {
		t.Fatalf("P14: Base = %d, %d, want %d, %d", a, n, base, open)
	}
}

// Behind the last block the window reaches further than there are blocks, and at last there is none to come.
func TestTakeOfTheLastBlocks(t *testing.T) {
	c := api.Config{K: 2, M: 1, Size: 2, Window: 3, Patience: 2, Workers: 1, Room: 1}
	end := api.MaxBlock + 1
	r, l := begun(t, c, end-4)
	takes(t, r, l[2][0], 0, api.ErrEarly, end-4, 0)
	r, l = begun(t, c, end-3)
	takes(t, r, l[2][0], 0, api.OK, end-3, 1)
	takes(t, r, l[2][2], 0, api.OK, end-3, 1)
	takes(t, r, l[1][0], 0, api.OK, end-3, 2)
	takes(t, r, l[0][2], 0, api.OK, end-3, 3)
	takes(t, r, l[0][1], 1, api.OK, end-2, 2)
	takes(t, r, l[0][0], 0, api.ErrLate, end-2, 2)
	takes(t, r, l[1][1], 2, api.OK, end, 0)
	for _, block := range l {
		for _, b := range block {
			takes(t, r, b, 0, api.ErrLate, end, 0)
		}
	}
	for range 5 {
		if out := r.Tick(); len(out) != 0 {
			t.Fatalf("P13: Tick behind the last block = %v", out)
		}
	}
	if base, open := r.Base(); base != end || open != 0 {
		t.Errorf("P14: Base behind the last block = %d, %d", base, open)
	}
}

func TestTickAtTheLastBlocks(t *testing.T) {
	c := api.Config{K: 2, M: 1, Size: 2, Window: 16, Patience: 1, Workers: 1, Room: 1}
	end := api.MaxBlock + 1
	r, l := begun(t, c, end-2)
	takes(t, r, l[2][1], 0, api.OK, end-2, 1)
	for i := range 4 {
		if out := r.Tick(); len(out) != 0 {
			t.Fatalf("P13: Tick = %v", out)
		}
		if base, open := r.Base(); base != min(end-1+i, end) || open != max(0, 1-i) {
			t.Fatalf("P14: Base behind %d ticks = %d, %d", i+1, base, open)
		}
	}
	takes(t, r, l[2][0], 0, api.ErrLate, end, 0)
}

// A receiver keeps a payload of a whole block, and no shards, since only an index and a Length can be asked of it.
func TestAWholeBlockKeepsNoShards(t *testing.T) {
	c := api.Config{K: 2, M: 2, Size: 2, Window: 2, Patience: 2, Workers: 1, Room: 1}
	r, l := begun(t, c, api.MaxBlock-3)
	for _, b := range l[0][:3] {
		r.Take(b)
	}
	if a := r.open[api.MaxBlock-2]; a == nil || a.shards != nil || string(a.payload) != "abc" {
		t.Errorf("a whole block is kept as %+v", a)
	}
	if base, open := r.Base(); base != api.MaxBlock-3 || open != 1 || len(r.open) != 1 {
		t.Errorf("P14: Base = %d, %d", base, open)
	}
}
