package batch

import (
	"colonnade/api"
	"colonnade/press"
)

// unit is how many bytes the places of a body are multiples of.
const unit = 8

// laid lays arrays that were checked, one behind the other: it fills in the nodes and slots of a head, and makes the body.
func laid(h api.Head, fields []api.Field, arrays []api.Data) (api.Head, []byte, api.Errno) {
	if h.Press < api.PressNone || h.Press > api.PressBack {
		return api.Head{}, nil, api.ErrArg
	}
	// What keeps any of them from being laid is told ahead of the body's length, so all are made first.
	forms := make([]api.Data, len(arrays))
	for k, d := range arrays {
		form, e := tight(fields[k], d)
		if e != api.OK {
			return api.Head{}, nil, e
		}
		forms[k] = form
	}
	var body []byte
	for k := range forms {
		x := through(part{field: fields[k], data: &forms[k]}, func(p part) api.Fault {
			h.Nodes = append(h.Nodes, api.Node{Length: p.data.Length, Nulls: p.data.Nulls})
			for _, b := range p.data.Buffers {
				packed, _ := press.Pack(h.Press, b)
				h.Slots = append(h.Slots, api.Slot{At: len(body), Len: len(packed), Raw: len(b)})
				body = padded(append(body, packed...))
			}
			if len(body) > api.MaxBody {
				return api.Fault{Err: api.ErrBytes}
			}
			return api.Fault{}
		}, nil)
		if x.Err != api.OK {
			return api.Head{}, nil, x.Err
		}
	}
	return h, body, api.OK
}

// padded lays bytes 0 behind others, up to a place where a slot may begin.
func padded(b []byte) []byte { return append(b, make([]byte, roundUp(len(b))-len(b))...) }

// roundUp tells the first place from one on where a slot may begin.
func roundUp(at int) int { return (at + unit - 1) / unit * unit }
