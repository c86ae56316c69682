package codec_test

import (
	"bytes"
	"runtime"
	"slices"
	"testing"
	"time"

	"weave/api"
)

// inside lays shards into one long list, with bytes before, between and behind them, and gives them as pieces of it with spare room.
func inside(list [][]byte) ([]byte, [][]byte) {
	whole := []byte{200, 201}
	for _, b := range list {
		whole = append(whole, b...)
		whole = append(whole, 210, 211, 212)
	}
	out := make([][]byte, len(list))
	at := 2
	for i, b := range list {
		out[i] = whole[at : at+len(b)]
		at += len(b) + 3
	}
	return whole, out
}

// overwrite writes into all of the lists and into their spare room.
func overwrite(lists [][]byte, with byte) {
	lists = lists[:cap(lists)]
	for i := range lists {
		all := lists[i][:cap(lists[i])]
		for j := range all {
			all[j] = with
		}
	}
}

func TestWhatIsHandedInIsLeftAlone(t *testing.T) {
	block := blockOf(shards("abc", "def", "ghi"), 2)
	whole, given := inside(block)
	lists := append(slices.Clone(given), []byte("behind"))
	was, wasLists := bytes.Clone(whole), copied(lists)
	have := haves("010111")
	c := made(t, 3, 2, 2, 2)
	check := func(what string) {
		t.Helper()
		if !bytes.Equal(whole, was) || !equal(lists, wasLists) || !slices.Equal(have, haves("010111")) {
			t.Fatalf("P1: %s: what was handed in is %v, %v, %v now", what, whole, lists, have)
		}
	}
	for range 2 {
		encoded, _ := c.Encode(lists[:3])
		check("Encode")
		rebuilt, e := c.Rebuild(lists[:5], have[:5])
		check("Rebuild")
		ok, _ := c.Verify(lists[:5])
		check("Verify")
		if !equal(encoded, block[3:]) || !equal(rebuilt, block) || e != api.OK || !ok {
			t.Fatalf("P1: the answers are %v, %v, %v", encoded, rebuilt, ok)
		}
		overwrite(encoded, 99)
		check("a write into what Encode gave")
		overwrite(rebuilt, 98)
		check("a write into what Rebuild gave")
	}
	c.Encode(lists[:2])
	c.Rebuild(lists[:5], haves("00001"))
	c.Rebuild(append(slices.Clone(lists[:4]), []byte("long")), haves("11111"))
	c.Verify(lists[:4])
	check("calls with errors")
}

// Shards that share memory with one another are shards like others.
func TestHandedInOverlapping(t *testing.T) {
	long := []byte("abcdefgh")
	data := [][]byte{long[0:4], long[1:5], long[0:4]}
	want := blockOf(data, 3)
	c := made(t, 3, 3, 2, 2)
	if l, e := c.Encode(data); !equal(l, want[3:]) || e != api.OK {
		t.Errorf("P5: Encode of overlapping shards = %v, %d", l, e)
	}
	l, e := c.Rebuild([][]byte{data[0], data[1], data[2], nil, nil, nil}, haves("111000"))
	if !equal(l, want) || e != api.OK {
		t.Fatalf("P6: Rebuild of overlapping shards = %v, %d", l, e)
	}
	l[0][0] = 99
	if string(long) != "abcdefgh" || !equal(l[1:], want[1:]) {
		t.Errorf("P1: lists of the answer share memory: %v, %v", long, l)
	}
}

func TestListsOfAnAnswerShareNothing(t *testing.T) {
	block := blockOf(shards("abc", "def", "ghi"), 3)
	c := made(t, 3, 3, 2, 2)
	answers := func() [][][]byte {
		encoded, _ := c.Encode(block[:3])
		out := [][][]byte{encoded}
		for _, have := range []string{"000111", "010110", "111000", "111111", "000111"} {
			l, _ := c.Rebuild(block, haves(have))
			out = append(out, l)
		}
		return out
	}
	for _, l := range answers() {
		for i := range l {
			others := copied(l)
			overwrite(l[i:i+1:i+1], 99)
			l[i] = append(l[i], "more than that"...)
			for j := range l {
				if j != i && !bytes.Equal(l[j], others[j]) {
					t.Fatalf("P1: a write into list %d of an answer changed list %d: %v", i, j, l)
				}
			}
		}
	}
	for i, l := range answers() {
		want := block
		if i == 0 {
			want = block[3:]
		}
		if !equal(l, want) {
			t.Fatalf("P1: answer %d hangs on what was done to one before: %v", i, l)
		}
		overwrite(l, 99)
	}
}

func TestNothingHandedInIsKept(t *testing.T) {
	block := blockOf(shards("abc", "def", "ghi"), 2)
	c := made(t, 3, 2, 2, 2)
	given, have := copied(block), haves("00111")
	encoded, _ := c.Encode(given[:3])
	rebuilt, _ := c.Rebuild(given, have)
	overwrite(given, 99)
	clear(given)
	clear(have)
	if !equal(encoded, block[3:]) || !equal(rebuilt, block) {
		t.Errorf("P1: answers hang on what was handed in: %v, %v", encoded, rebuilt)
	}
	if l, e := c.Rebuild(block, haves("00111")); !equal(l, block) || e != api.OK || c.Hits() != 1 {
		t.Errorf("P1, P7: the kept matrix hangs on what was handed in: %v, %d, Hits = %d", l, e, c.Hits())
	}
}

func TestNoWorkerIsLeft(t *testing.T) {
	block := blockOf(shards("abcdefghijklmnopq", "rstuvwxyzabcdefgh"), 2)
	c := made(t, 2, 2, api.MaxWorkers, 2)
	before := runtime.NumGoroutine()
	for range 50 {
		c.Encode(block[:2])
		c.Verify(block)
		c.Rebuild(block, haves("0011"))
	}
	// A goroutine that has called Done may need a moment more until it is not counted.
	for range 1000 {
		if runtime.NumGoroutine() <= before {
			return
		}
		time.Sleep(time.Millisecond)
	}
	t.Errorf("%d goroutines were there before, %d are now", before, runtime.NumGoroutine())
}
