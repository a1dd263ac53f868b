package stats

import "colonnade/api"

// allows tells whether a comparison with some value may be true between bounds of which the least and the most stand so to it.
func allows(op, least, most int) bool {
	switch op {
	case api.OpEq:
		return least <= 0 && most >= 0
	case api.OpNe:
		return least != 0 || most != 0
	case api.OpLt:
		return least < 0
	case api.OpLe:
		return least <= 0
	case api.OpGt:
		return most > 0
	}
	return most >= 0
}

// opposite tells the comparison that is true just where another one is false.
func opposite(op int) int {
	switch op {
	case api.OpEq:
		return api.OpNe
	case api.OpNe:
		return api.OpEq
	case api.OpLt:
		return api.OpGe
	case api.OpLe:
		return api.OpGt
	case api.OpGt:
		return api.OpLe
	}
	return api.OpLt
}

// turned tells the comparison that says the same with its two sides turned round.
func turned(op int) int {
	switch op {
	case api.OpLt:
		return api.OpGt
	case api.OpLe:
		return api.OpGe
	case api.OpGt:
		return api.OpLt
	case api.OpGe:
		return api.OpLe
	}
	return op
}
