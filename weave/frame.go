package weave

import (
	"bytes"

	"weave/api"
)

// The two bytes that a datagram begins with.
const (
	mark    = 87
	version = 1
)

// Where the parts of a datagram begin in its bytes; each ends where the next one begins, the shard where the sum does.
const (
	atBlock  = 2
	atIndex  = 6
	atK      = 7
	atM      = 8
	atSize   = 9
	atLength = 11
	atShard  = 15
	sumBytes = 4
	// around is how many bytes a datagram has beside its shard.
	around = atShard + sumBytes
)

// fits tells whether a datagram is one of a right configuration's stream.
func fits(c api.Config, d api.Datagram) bool {
	return within(d.Block, 0, api.MaxBlock) && within(d.Index, 0, c.K+c.M-1) && within(d.Length, 0, c.K*c.Size) && len(d.Shard) == c.Size
}

// frame writes a datagram that fits.
func frame(c api.Config, d api.Datagram) []byte {
	b := make([]byte, 0, around+len(d.Shard))
	b = append(b, mark, version)
	b = appendNumber(b, d.Block, atIndex-atBlock)
	b = append(b, byte(d.Index), byte(c.K), byte(c.M))
	b = appendNumber(b, c.Size, atLength-atSize)
	b = appendNumber(b, d.Length, atShard-atLength)
	b = append(b, d.Shard...)
	return appendNumber(b, sum(b), sumBytes)
}

// framed tells whether bytes are those of a datagram of some stream, by their beginning, their number and their sum.
func framed(b []byte) bool {
	if len(b) < around || b[0] != mark || b[1] != version || len(b) != number(b[atSize:atLength])+around {
		return false
	}
	end := len(b) - sumBytes
	return number(b[end:]) == sum(b[:end])
}

// ofStream tells whether framed bytes are of the configuration's stream.
func ofStream(c api.Config, b []byte) bool {
	return int(b[atK]) == c.K && int(b[atM]) == c.M && number(b[atSize:atLength]) == c.Size
}

// datagram reads framed bytes, whatever numbers they tell.
func datagram(b []byte) api.Datagram {
	return api.Datagram{
		Block:  number(b[atBlock:atIndex]),
		Index:  int(b[atIndex]),
		Length: number(b[atLength:atShard]),
		Shard:  bytes.Clone(b[atShard : len(b)-sumBytes]),
	}
}

func appendNumber(b []byte, n int, count int) []byte {
	for i := count - 1; i >= 0; i-- {
		b = append(b, byte(n>>(8*i)))
	}
	return b
}

func number(b []byte) int {
	n := 0
	for _, part := range b {
		n = n<<8 | int(part)
	}
	return n
}

// sum reckons in 32 bits, whose wrap-round is the modulo that is asked for.
func sum(b []byte) int {
	h := uint32(2166136261)
	for _, part := range b {
		h = (h ^ uint32(part)) * 16777619
	}
	return int(h)
}
