package weave_test

import (
	"testing"

	"weave/api"
)

// patient is the small configuration with a window of four and so much patience.
func patient(patience int) api.Config {
	return changed(func(c *api.Config) { c.Window, c.Patience = 4, patience })
}

func TestTickOfTheExample(t *testing.T) {
	l := blocks(small(), "abc", "def")
	r := receives(t, small())
	r.takes(l[1][0])
	r.takes(l[1][2])
	r.ticks(1)
	r.stands(0, 1)
	r.letsGo(given(1, "def")...)
	r.stands(2, 0)
}

func TestTickWithNoBlockOpen(t *testing.T) {
	for patience := 1; patience <= api.MaxPatience; patience++ {
		r := receives(t, patient(patience))
		r.ticks(40)
		r.stands(0, 0)
		r.takes(lone(patient(patience), 0, 0, 3))
		r.ticks(patience - 1) // none of those that went by has counted
		r.letsGo()
		r.stands(1, 0)
		r.ticks(40)
		r.takes(lone(patient(patience), 2, 0, 3))
		r.ticks(patience - 1)
		r.letsGo()
		r.stands(2, 1)
	}
}

// A block that was given out is not open, so that ticks behind it are nothing.
func TestTickBehindABlockThatWasGivenOut(t *testing.T) {
	c := patient(2)
	l := blocks(c, "a", "b")
	r := receives(t, c)
	r.takes(l[0][0])
	r.takes(l[0][1], given(0, "a")...)
	r.ticks(10)
	r.stands(1, 0)
	r.takes(l[1][0])
	r.ticks(1)
	r.takes(l[1][1], given(1, "b")...)
	r.ticks(10)
	r.stands(2, 0)
}

func TestTickLetsTheBaseGo(t *testing.T) {
	for patience := 1; patience <= api.MaxPatience; patience++ {
		c := patient(patience)
		for _, open := range []int{0, 1, 3} { // the base's block is open in the first of these alone
			r := receives(t, c)
			r.takes(lone(c, open, 1, 3))
			for base := range open {
				r.ticks(patience - 1)
				r.letsGo()
				r.stands(base+1, 1)
				r.refuses(lone(c, base, 0, 3), api.ErrLate)
			}
			r.ticks(patience - 1)
			r.letsGo()
			r.stands(open+1, 0)
			r.refuses(lone(c, open, 0, 3), api.ErrLate)
			r.ticks(3 * patience)
			r.stands(open+1, 0)
		}
	}
}

func TestTickGivesOutWhatIsWhole(t *testing.T) {
	payloads := []string{"a", "bc", "", "defg"}
	for patience := 1; patience <= api.MaxPatience; patience++ {
		c := patient(patience)
		l := blocks(c, payloads...)
		for whole := range 16 {
			r := receives(t, c)
			for block := 3; block >= 0; block-- {
				if whole>>block&1 == 1 {
					r.take(l[block][2])
					r.take(l[block][block%2])
				}
			}
			base, open := r.asked.Base()
			for open > 0 {
				end := base + 1
				for whole>>end&1 == 1 {
					end++
				}
				r.ticks(patience - 1)
				r.letsGo(given(base+1, payloads[base+1:end]...)...)
				base, open = r.asked.Base()
			}
		}
	}
}

// An open block stays open while those ahead of it are let go, with all that has come of it.
func TestTickKeepsWhatHasCome(t *testing.T) {
	c := patient(1)
	l := blocks(c, "a", "b", "cdef")
	r := receives(t, c)
	r.takes(l[2][2])
	r.letsGo()
	r.letsGo()
	r.stands(2, 1)
	r.refuses(l[2][2], api.ErrTwice)
	r.refuses(lone(c, 2, 0, 3), api.ErrOdd)
	r.takes(l[2][0], given(2, "cdef")...)
}

// The window goes on with the base when a block is let go.
func TestTickMovesTheWindow(t *testing.T) {
	c := patient(1)
	r := receives(t, c)
	r.takes(lone(c, 3, 0, 0))
	r.refuses(lone(c, 4, 0, 0), api.ErrEarly)
	r.letsGo()
	r.takes(lone(c, 4, 0, 0))
	r.refuses(lone(c, 5, 0, 0), api.ErrEarly)
	r.stands(1, 2)
}

func TestWaitingBeginsAnewByTake(t *testing.T) {
	for patience := 1; patience <= api.MaxPatience; patience++ {
		c := patient(patience)
		l := blocks(c, "a", "b", "c")
		r := receives(t, c)
		r.takes(l[0][0])
		r.takes(l[2][0])
		r.ticks(patience - 1)
		r.takes(l[0][1], given(0, "a")...)
		r.ticks(patience - 1)
		r.takes(l[1][1])
		r.takes(l[1][2], given(1, "b")...)
		r.ticks(patience - 1)
		r.letsGo()
		r.stands(3, 0)
	}
}

func TestWaitingBeginsAnewByTick(t *testing.T) {
	for patience := 1; patience <= api.MaxPatience; patience++ {
		c := patient(patience)
		l := blocks(c, "a", "b", "c", "d")
		r := receives(t, c)
		r.takes(l[1][0])
		r.takes(l[1][1])
		r.takes(l[3][1])
		r.ticks(patience - 1)
		r.letsGo(given(1, "b")...)
		r.stands(2, 1)
		r.ticks(patience - 1)
		r.letsGo()
		r.stands(3, 1)
		r.ticks(patience - 1)
		r.letsGo()
		r.stands(4, 0)
	}
}

// What comes without making the base more, taken or refused, does not begin the waiting anew.
func TestWaitingGoesOn(t *testing.T) {
	c := patient(4)
	l := blocks(c, "a", "b", "c")
	r := receives(t, c)
	r.takes(l[1][0])
	r.ticks(1)
	r.takes(l[1][1])
	r.takes(l[0][0])
	r.ticks(1)
	r.takes(l[1][2])
	r.refuses(nil, api.ErrFrame)
	r.refuses(lone(c, 4, 0, 0), api.ErrEarly)
	r.refuses(l[0][0], api.ErrTwice)
	r.refuses(lone(c, 0, 1, 4), api.ErrOdd)
	r.ticks(1)
	r.takes(l[2][0])
	r.letsGo(given(1, "b")...)
	r.refuses(l[0][1], api.ErrLate)
	r.ticks(3)
	r.letsGo()
	r.stands(3, 0)
}

// The waiting is the base's: a block that comes to stand first waits as long as one that stood there.
func TestABlockWaitsFromWhenItIsTheBases(t *testing.T) {
	c := patient(3)
	l := blocks(c, "a", "b")
	r := receives(t, c)
	r.takes(l[1][0])
	r.ticks(2)
	r.takes(l[0][0])
	r.takes(l[0][2], given(0, "a")...)
	r.ticks(2)
	r.takes(l[1][2], given(1, "b")...)
	r.stands(2, 0)
}
