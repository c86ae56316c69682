package weave

import (
	"weave/api"
	"weave/codec"
)

// right tells whether a configuration is RIGHT. K is asked ahead of M, whose bound hangs on it.
func right(c api.Config) bool {
	return within(c.K, 1, api.MaxShards) && within(c.M, 0, api.MaxShards-c.K) && within(c.Size, 1, api.MaxSize) &&
		within(c.Window, 1, api.MaxWindow) && within(c.Patience, 1, api.MaxPatience) &&
		within(c.Workers, 1, api.MaxWorkers) && within(c.Room, 0, api.MaxRoom)
}

func within(n int, least int, most int) bool {
	return least <= n && n <= most
}

// codecOf makes the codec that either end of a stream has.
func codecOf(c api.Config) (*codec.Codec, api.Errno) {
	if !right(c) {
		return nil, api.ErrArg
	}
	return codec.New(c.K, c.M, c.Workers, c.Room)
}
