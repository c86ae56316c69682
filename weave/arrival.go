package weave

import "weave/api"

// arrival is what an open block is known by.
type arrival struct {
	length int
	count  int
	have   []bool
	// shards are let go when the block is whole, since its payload is all that is asked for then.
	shards  [][]byte
	payload []byte
}

// refusal is the error of a datagram that Get gave, as the receiver stands.
func (r *Receiver) refusal(d api.Datagram) api.Errno {
	if d.Block < r.base {
		return api.ErrLate
	}
	if d.Block-r.base >= r.config.Window {
		return api.ErrEarly
	}
	a := r.open[d.Block]
	if a == nil {
		return api.OK
	}
	if a.have[d.Index] {
		return api.ErrTwice
	}
	if d.Length != a.length {
		return api.ErrOdd
	}
	return api.OK
}

// arrive lets the shard of a datagram that is not refused come.
func (r *Receiver) arrive(d api.Datagram) {
	a := r.open[d.Block]
	if a == nil {
		total := r.config.K + r.config.M
		a = &arrival{length: d.Length, have: make([]bool, total), shards: make([][]byte, total)}
		r.open[d.Block] = a
	}
	a.have[d.Index] = true
	a.count++
	if a.count > r.config.K {
		return
	}
	a.shards[d.Index] = d.Shard
	if a.count == r.config.K {
		a.payload = r.payload(a)
		a.shards = nil
	}
}

// payload makes the payload of a block of which K shards have come. Rebuild has no error for these: Get gave each of them Size bytes.
func (r *Receiver) payload(a *arrival) []byte {
	block, _ := r.codec.Rebuild(a.shards, a.have)
	out := make([]byte, 0, a.length)
	for _, shard := range block {
		left := a.length - len(out)
		out = append(out, shard[:min(left, len(shard))]...)
	}
	return out
}

// giveOut gives out the blocks from the base on that are whole.
func (r *Receiver) giveOut() []api.Block {
	var out []api.Block
	for {
		a := r.open[r.base]
		if a == nil || a.count < r.config.K {
			return out
		}
		out = append(out, api.Block{Number: r.base, Payload: a.payload})
		r.rise()
	}
}

// rise is done with the base's block, be it open or not.
func (r *Receiver) rise() {
	delete(r.open, r.base)
	r.base++
	r.waited = 0
}
