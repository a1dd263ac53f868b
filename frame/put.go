package frame

import (
	"colonnade/api"
	"colonnade/view"
)

// What a message, and the end, begins with.
const (
	messageMark = "COL1"
	endMark     = "COL0"
)

// The places of a head's numbers, and how many bytes it has.
const (
	metaAt    = 4
	bodyAt    = 8
	headSumAt = 12
	bodySumAt = 16
	headSize  = 24
)

// unit is of what the metadata and the body fill a whole number.
const unit = 8

// The sum of no bytes, and by what it is multiplied at each one.
const (
	sumOfNone = 2166136261
	sumTimes  = 16777619
)

// Put tells a message's bytes.
func Put(m api.Message) ([]byte, api.Errno) {
	if len(m.Meta) > api.MaxMeta || len(m.Body) > api.MaxBody {
		return nil, api.ErrBytes
	}
	return lay(messageMark, m), api.OK
}

// Close tells the bytes that end a stream.
func Close() []byte { return lay(endMark, api.Message{}) }

// lay lays a message down behind a mark. All of it stays far below what an ink takes, so none of its calls is refused.
func lay(mark string, m api.Message) []byte {
	k := view.NewInk(size(m))
	k.Text(mark)
	k.Number(uint64(len(m.Meta)), 4)
	k.Number(uint64(len(m.Body)), 4)
	k.Number(uint64(sum(sumOfNone, k.Bytes())), 4)
	k.Number(uint64(sum(sum(sumOfNone, m.Meta), m.Body)), 4)
	k.Pad(unit)
	k.Text(string(m.Meta))
	k.Pad(unit)
	k.Text(string(m.Body))
	k.Pad(unit)
	return k.Bytes()
}

// size tells how many bytes a message takes on a stream.
func size(m api.Message) int { return headSize + padded(len(m.Meta)) + padded(len(m.Body)) }

func padded(n int) int { return (n + unit - 1) / unit * unit }

// sum goes on from the sum of what stands ahead of b.
func sum(from uint32, b []byte) uint32 {
	for _, c := range b {
		from = (from ^ uint32(c)) * sumTimes
	}
	return from
}
