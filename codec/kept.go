package codec

import "slices"

// kept holds values by their keys, up to room of them, and lets go of the one that was asked for least lately.
type kept[K comparable, V any] struct {
	room    int
	entries []entry[K, V] // the one asked for least lately comes first
}

type entry[K comparable, V any] struct {
	key   K
	value V
}

// find gives the value of a key, which is the one asked for most lately then, and whether there is one.
func (l *kept[K, V]) find(key K) (V, bool) {
	for i, found := range l.entries {
		if found.key == key {
			l.entries = append(slices.Delete(l.entries, i, i+1), found)
			return found.value, true
		}
	}
	var none V
	return none, false
}

// add is for a key that find did not find.
func (l *kept[K, V]) add(key K, value V) {
	if l.room == 0 {
		return
	}
	if len(l.entries) == l.room {
		l.entries = slices.Delete(l.entries, 0, 1)
	}
	l.entries = append(l.entries, entry[K, V]{key, value})
}
