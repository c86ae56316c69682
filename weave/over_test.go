package weave

import (
	"testing"

	"weave/api"
)

// So many blocks take too long to be sent, so the next block's number is set.
func TestTheLastBlock(t *testing.T) {
	c := api.Config{K: 2, M: 1, Size: 2, Window: 2, Patience: 2, Workers: 1, Room: 1}
	s, _ := NewSender(c)
	s.next = api.MaxBlock - 1
	for _, block := range []int{api.MaxBlock - 1, api.MaxBlock} {
		l, e := s.Send([]byte("abc"))
		if len(l) != 3 || e != api.OK {
			t.Fatalf("P11: Send as block %d = %q, %d", block, l, e)
		}
		for i := range l {
			if d, e := Get(c, l[i]); d.Block != block || d.Index != i || d.Length != 3 || e != api.OK {
				t.Errorf("P11: datagram %d of block %d is %+v, %d", i, block, d, e)
			}
		}
	}
	for range 3 {
		for _, payload := range []string{"", "abc", "abcd"} {
			if l, e := s.Send([]byte(payload)); l != nil || e != api.ErrOver {
				t.Errorf("P11, P1: Send(%q) behind the last block = %q, %d, want nil, ErrOver", payload, l, e)
			}
		}
		if l, e := s.Send(nil); l != nil || e != api.ErrOver {
			t.Errorf("P11, P1: Send(nil) behind the last block = %q, %d, want nil, ErrOver", l, e)
		}
		if l, e := s.Send([]byte("abcde")); l != nil || e != api.ErrSize {
			t.Errorf("P11, P1: Send of too much behind the last block = %q, %d, want nil, ErrSize", l, e)
		}
	}
	other, _ := NewSender(c)
	if l, e := other.Send(nil); len(l) != 3 || e != api.OK {
		t.Errorf("P1: a sender hangs on another that has sent its last block: %q, %d", l, e)
	}
}

// A payload that is too long must not bring a sender nearer to its last block.
func TestAnErrorSendsNoBlock(t *testing.T) {
	s, _ := NewSender(api.Config{K: 1, M: 0, Size: 1, Window: 1, Patience: 1, Workers: 1})
	s.next = api.MaxBlock
	s.Send([]byte("ab"))
	if l, e := s.Send([]byte("a")); len(l) != 1 || e != api.OK {
		t.Errorf("P11, P1: Send of the last block behind an error = %q, %d", l, e)
	}
}
