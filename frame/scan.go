package frame

import (
	"strings"

	"colonnade/api"
	"colonnade/view"
)

// The states of a scan: what the next byte belongs to. They follow one another as they stand here; behind the last part of a message comes inMark again, or behindEnd.
const (
	inMark = iota
	inLengths
	inHeadSum
	inBodySum
	inZeros
	inMeta
	behindMeta
	inBody
	behindBody
	behindEnd
)

// scan goes through a stream, once. It keeps no bytes but of the message under way and of those that were not told.
type scan struct {
	limits api.Limits
	state  int
	left   int           // how many bytes of the state are still to come
	head   []byte        // of the message under way, as far as it came
	meta   int           // how many bytes of metadata the head says
	body   int           // and how many of the body
	sum    uint32        // of the metadata and the body, as far as they came
	now    api.Message   // the message under way
	whole  []api.Message // those that were not told
	wrong  api.Errno     // what is wrong with the first wrong byte
}

func newScan(l api.Limits) scan {
	s := scan{limits: l}
	s.begin(inMark)
	return s
}

// begin begins a message, or what is behind the end.
func (s *scan) begin(state int) {
	*s = scan{limits: s.limits, state: state, whole: s.whole, sum: sumOfNone}
	s.left = s.wants(state)
}

// first tells the first message, and forgets it.
func (s *scan) first() api.Message {
	m := s.whole[0]
	// A list keeps all of its room, also what it no longer shows.
	s.whole[0] = api.Message{}
	s.whole = s.whole[1:]
	if len(s.whole) == 0 {
		s.whole = nil
	}
	return m
}

// take goes through the next bytes. Those from the first wrong one on are neither looked at nor kept.
func (s *scan) take(b []byte) {
	e := s.wrong
pieces:
	for e == api.OK && len(b) > 0 {
		piece := b[:min(s.left, len(b))]
		switch s.state {
		case inMark:
			s.head = append(s.head, piece...)
			if !beginsMark(string(s.head)) {
				e = api.ErrMark
				break pieces
			}
		case inLengths, inHeadSum, inBodySum:
			s.head = append(s.head, piece...)
		case inMeta:
			s.now.Meta = append(s.now.Meta, piece...)
			s.sum = sum(s.sum, piece)
		case inBody:
			s.now.Body = append(s.now.Body, piece...)
			s.sum = sum(s.sum, piece)
		case inZeros, behindMeta, behindBody:
			if !isZero(piece) {
				e = api.ErrForm
				break pieces
			}
		case behindEnd:
			e = api.ErrTail
			break pieces
		}
		b = b[len(piece):]
		s.left -= len(piece)
		e = s.forward()
	}
	if e != api.OK {
		*s = scan{whole: s.whole, wrong: e}
	}
}

// forward goes on, past the parts of which all bytes are there, to the next one that wants some.
func (s *scan) forward() api.Errno {
	for s.left == 0 {
		switch s.state {
		case inHeadSum:
			if e := s.readHead(); e != api.OK {
				return e
			}
		case behindBody:
			return s.finish()
		}
		s.state++
		s.left = s.wants(s.state)
	}
	return api.OK
}

// readHead reads the lengths, once the head's sum has come.
func (s *scan) readHead() api.Errno {
	m, b := int(s.number(metaAt)), int(s.number(bodyAt))
	switch {
	case s.number(headSumAt) != sum(sumOfNone, s.head[:headSumAt]):
		return api.ErrSum
	case m > s.limits.Meta || b > s.limits.Body:
		return api.ErrLimit
	case s.isEnd() && (m != 0 || b != 0):
		return api.ErrForm
	}
	s.meta, s.body = m, b
	return api.OK
}

// finish looks at the message, all of whose bytes have come, and begins the next one.
func (s *scan) finish() api.Errno {
	if s.number(bodySumAt) != s.sum {
		return api.ErrSum
	}
	if s.isEnd() {
		s.begin(behindEnd)
		return api.OK
	}
	s.whole = append(s.whole, s.now)
	s.begin(inMark)
	return api.OK
}

// wants tells how many bytes a state is of. Behind the end none may stand: the first one is looked at, and is wrong.
func (s *scan) wants(state int) int {
	switch state {
	case inMark, inHeadSum, inBodySum, inZeros:
		return 4
	case inLengths:
		return 8
	case inMeta:
		return s.meta
	case behindMeta:
		return padded(s.meta) - s.meta
	case inBody:
		return s.body
	case behindBody:
		return padded(s.body) - s.body
	}
	return 1
}

// number tells a number of the head that is there.
func (s *scan) number(at int) uint32 {
	x, _ := view.Of(s.head).Load(at, 4)
	return uint32(x)
}

func (s *scan) isEnd() bool { return string(s.head[:metaAt]) == endMark }

func beginsMark(text string) bool {
	return strings.HasPrefix(messageMark, text) || strings.HasPrefix(endMark, text)
}

func isZero(b []byte) bool {
	for _, c := range b {
		if c != 0 {
			return false
		}
	}
	return true
}
