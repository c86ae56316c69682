package weave

import (
	"slices"

	"weave/api"
)

// shards cuts a payload that is not too long into the shards of its block.
func (s *Sender) shards(payload []byte) ([][]byte, api.Errno) {
	filled := make([]byte, s.config.K*s.config.Size)
	copy(filled, payload)
	data := slices.Collect(slices.Chunk(filled, s.config.Size))
	more, e := s.codec.Encode(data)
	if e != api.OK {
		return nil, e
	}
	return append(data, more...), api.OK
}
