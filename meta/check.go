package meta

import (
	"colonnade/api"
	"colonnade/kind"
)

// What a head says of a body at most.
const (
	maxNodes = 512
	maxSlots = 1536
)

// mayBe tells whether a head may be.
func mayBe(h api.Head) bool {
	switch h.Kind {
	case api.HeadSchema:
		return saysNoBody(h) && kind.Check(h.Schema).Err == api.OK
	case api.HeadDict:
		return isUpTo(h.ID, api.MaxDicts-1) && bodyMayBe(h)
	case api.HeadBatch:
		return h.ID == 0 && !h.Delta && bodyMayBe(h)
	}
	return false
}

// saysNoBody tells whether all that a schema's head has no use for is zero.
func saysNoBody(h api.Head) bool {
	return h.ID == 0 && !h.Delta && h.Rows == 0 && h.Press == 0 && len(h.Nodes) == 0 && len(h.Slots) == 0
}

// bodyMayBe tells whether what a head says of its body, and nothing of a schema, may be.
func bodyMayBe(h api.Head) bool {
	if len(h.Schema.Fields) > 0 || len(h.Schema.Notes) > 0 {
		return false
	}
	if !isUpTo(h.Rows, api.MaxRows) || !isPress(h.Press) {
		return false
	}
	return nodesMayBe(h.Nodes) && slotsMayBe(h.Slots)
}

// isUpTo tells whether a number is 0 to most.
func isUpTo(n, most int) bool { return n >= 0 && n <= most }

// isPress tells whether a number says how buffers are packed.
func isPress(n int) bool {
	return n == api.PressNone || n == api.PressRuns || n == api.PressBack
}

// nodesMayBe tells whether nodes may be, each by itself.
func nodesMayBe(l []api.Node) bool {
	if len(l) > maxNodes {
		return false
	}
	for _, n := range l {
		if !isUpTo(n.Length, api.MaxRows) || !isUpTo(n.Nulls, n.Length) {
			return false
		}
	}
	return true
}

// slotsMayBe tells whether slots may be, each by itself.
func slotsMayBe(l []api.Slot) bool {
	if len(l) > maxSlots {
		return false
	}
	for _, s := range l {
		if !isUpTo(s.At, api.MaxBody) || !isUpTo(s.Len, api.MaxBody) || !isUpTo(s.Raw, api.MaxBody) {
			return false
		}
	}
	return true
}
