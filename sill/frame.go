package sill

import "sill/api"

const (
	timeSize  = 8
	valueSize = 8
	tagSize   = 4
	checkSize = 2

	markSize = 1 + timeSize
	// eventHead is what stands ahead of an event's key: its kind and the key's length.
	eventHead = 2
	eventTail = timeSize + valueSize + tagSize
)

func isItem(i api.Item) bool {
	switch i.Kind {
	case api.Event:
		return len(i.Key) >= 1 && len(i.Key) <= api.MaxKey
	case api.Mark:
		return i.Key == "" && i.Value == 0 && i.Tag == 0
	}
	return false
}

// bodyOf makes the body of what isItem holds of.
func bodyOf(i api.Item) []byte {
	if i.Kind == api.Mark {
		return appendLow([]byte{api.Mark}, uint64(i.Time), timeSize)
	}
	b := []byte{api.Event, byte(len(i.Key))}
	b = append(b, i.Key...)
	b = appendLow(b, uint64(i.Time), timeSize)
	b = appendLow(b, uint64(i.Value), valueSize)
	return appendLow(b, uint64(i.Tag), tagSize)
}

// itemOf reads a body; false: it is that of no item.
func itemOf(body []byte) (api.Item, bool) {
	if len(body) == 0 {
		return api.Item{}, false
	}
	switch body[0] {
	case api.Event:
		return eventOf(body)
	case api.Mark:
		return markOf(body)
	}
	return api.Item{}, false
}

func markOf(body []byte) (api.Item, bool) {
	if len(body) != markSize {
		return api.Item{}, false
	}
	return api.Item{Kind: api.Mark, Time: int64(readLow(body[1:]))}, true
}

func eventOf(body []byte) (api.Item, bool) {
	if len(body) < eventHead {
		return api.Item{}, false
	}
	keySize := int(body[1])
	if keySize < 1 || keySize > api.MaxKey || len(body) != eventHead+keySize+eventTail {
		return api.Item{}, false
	}
	key, tail := body[eventHead:eventHead+keySize], body[eventHead+keySize:]
	return api.Item{
		Kind:  api.Event,
		Key:   string(key),
		Time:  int64(readLow(tail[:timeSize])),
		Value: int64(readLow(tail[timeSize : timeSize+valueSize])),
		Tag:   uint32(readLow(tail[timeSize+valueSize:])),
	}, true
}

// appendLow puts the lowest bytes of v behind b, the lowest one first.
func appendLow(b []byte, v uint64, size int) []byte {
	for range size {
		b = append(b, byte(v))
		v >>= 8
	}
	return b
}

// readLow reads up to eight bytes as a number, the lowest one first.
func readLow(b []byte) uint64 {
	v := uint64(0)
	for k := len(b) - 1; k >= 0; k-- {
		v = v<<8 | uint64(b[k])
	}
	return v
}
