package weave_test

import (
	"math"
	"testing"

	"weave/api"
	"weave/weave"
)

// asked asks every call that takes a configuration, with a datagram that is right in it if it is right itself.
func asked(t *testing.T, c api.Config, right bool) {
	t.Helper()
	want := api.OK
	if !right {
		want = api.ErrArg
	}
	if s, e := weave.NewSender(c); e != want || (s != nil) != right {
		t.Errorf("P10: NewSender(%+v) = %v, %d, want %d", c, s, e, want)
	}
	r, e := weave.NewReceiver(c)
	if e != want || (r != nil) != right {
		t.Errorf("P10: NewReceiver(%+v) = %v, %d, want %d", c, r, e, want)
	}
	if right {
		if base, open := r.Base(); base != 0 || open != 0 {
			t.Errorf("P10: a new receiver has the base %d and %d blocks open", base, open)
		}
	}
	d := api.Datagram{Shard: make([]byte, max(0, min(c.Size, 1<<16)))}
	b, e := weave.Put(c, d)
	if e != want || (b != nil) != right {
		t.Errorf("P8: with %+v, Put = %q, %d, want %d", c, b, e, want)
	}
	if x, e := weave.Get(c, sealed(headOf(c, d), d.Shard)); e != want || right && !same(x, d) || !right && !zero(x) {
		t.Errorf("P9: with %+v, Get = %+v, %d, want %d", c, x, e, want)
	}
}

func TestRightConfigurations(t *testing.T) {
	asked(t, small(), true)
	for _, n := range [][2]int{{1, 0}, {1, 1}, {1, 254}, {2, 253}, {127, 128}, {128, 127}, {254, 0}, {254, 1}, {255, 0}} {
		asked(t, changed(func(c *api.Config) { c.K, c.M = n[0], n[1] }), true)
	}
	for _, n := range []int{1, 2, 255, 256, 257, 1023, 1024} {
		asked(t, changed(func(c *api.Config) { c.Size = n }), true)
	}
	for _, n := range []int{1, 2, 15, 16} {
		asked(t, changed(func(c *api.Config) { c.Window = n }), true)
		asked(t, changed(func(c *api.Config) { c.Patience = n }), true)
		asked(t, changed(func(c *api.Config) { c.Workers = n }), true)
		asked(t, changed(func(c *api.Config) { c.Room = n }), true)
	}
	asked(t, changed(func(c *api.Config) { c.Room = 0 }), true)
	asked(t, api.Config{K: 1, M: 0, Size: 1, Window: 1, Patience: 1, Workers: 1, Room: 0}, true)
	asked(t, api.Config{K: 255, M: 0, Size: 1024, Window: 16, Patience: 16, Workers: 16, Room: 16}, true)
	asked(t, api.Config{K: 1, M: 254, Size: 1024, Window: 16, Patience: 16, Workers: 16, Room: 16}, true)
}

func TestConfigurationsThatAreNotRight(t *testing.T) {
	asked(t, api.Config{}, false)
	for _, n := range [][2]int{{0, 0}, {0, 1}, {0, 255}, {256, 0}, {256, -1}, {255, 1}, {254, 2}, {128, 128}, {1, 255}, {1, -1}, {255, -1}} {
		asked(t, changed(func(c *api.Config) { c.K, c.M = n[0], n[1] }), false)
	}
	for _, n := range []int{0, 17} {
		asked(t, changed(func(c *api.Config) { c.Window = n }), false)
		asked(t, changed(func(c *api.Config) { c.Patience = n }), false)
		asked(t, changed(func(c *api.Config) { c.Workers = n }), false)
	}
	asked(t, changed(func(c *api.Config) { c.Size = 0 }), false)
	asked(t, changed(func(c *api.Config) { c.Size = 1025 }), false)
	asked(t, changed(func(c *api.Config) { c.Room = 17 }), false)
	for _, far := range []int{math.MinInt, math.MinInt + 255, -1 << 32, -1, 1 << 16, 1 << 32, 1<<32 + 1, math.MaxInt - 254, math.MaxInt} {
		for _, change := range []func(c *api.Config){
			func(c *api.Config) { c.K = far }, func(c *api.Config) { c.M = far }, func(c *api.Config) { c.K, c.M = far, far },
			func(c *api.Config) { c.Size = far }, func(c *api.Config) { c.Window = far }, func(c *api.Config) { c.Patience = far },
			func(c *api.Config) { c.Workers = far }, func(c *api.Config) { c.Room = far },
			func(c *api.Config) {
				*c = api.Config{K: far, M: far, Size: far, Window: far, Patience: far, Workers: far, Room: far}
			},
		} {
			asked(t, changed(change), false)
		}
	}
}
