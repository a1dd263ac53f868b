package calc

import (
	"strings"

	"colonnade/api"
)

// glued is the first text, and the second one behind it.
func glued(v []api.Value) api.Value { return api.Value{Text: v[0].Text + v[1].Text} }

// length is how many bytes a text has, or items a list: a value never has both.
func length(v []api.Value) api.Value {
	return api.Value{Num: int64(len(v[0].Text) + len(v[0].List))}
}

func begins(v []api.Value) api.Value { return truth(strings.HasPrefix(v[0].Text, v[1].Text)) }

func holds(v []api.Value) api.Value { return truth(strings.Contains(v[0].Text, v[1].Text)) }
