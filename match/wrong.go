package match

import (
	"slices"

	"colonnade/api"
	"colonnade/kind"
	"colonnade/pick"
)

// wrongSchemas tells whether one of two schemas may not be.
func wrongSchemas(s1, s2 api.Schema) api.Errno {
	if kind.Check(s1).Err != api.OK || kind.Check(s2).Err != api.OK {
		return api.ErrType
	}
	return api.OK
}

// wrongBatch tells what keeps a batch from being one of a schema that may be. (pick looks at it, also where no row is taken; build.Rows can't be asked instead, as it also refuses columns that are too heavy together.)
func wrongBatch(s api.Schema, b api.Batch) api.Errno {
	_, e := pick.TakeRows(s, b, nil)
	return e
}

// wrongKeys tells what is wrong with a kind of join, or with the keys of two schemas that may be.
func wrongKeys(join int, s1 api.Schema, k1 []int, s2 api.Schema, k2 []int) api.Errno {
	if join < api.JoinInner || join > api.JoinAnti {
		return api.ErrArg
	}
	if len(k1) != len(k2) || !areKeys(s1, k1) || !areKeys(s2, k2) {
		return api.ErrKey
	}
	for i := range k1 {
		if !alike(bare(s1.Fields[k1[i]]).Type, bare(s2.Fields[k2[i]]).Type) {
			return api.ErrUnlike
		}
	}
	return api.OK
}

// areKeys tells whether numbers are as many as keys may be, each of a column, none twice.
func areKeys(s api.Schema, keys []int) bool {
	if len(keys) == 0 || len(keys) > api.MaxKeys {
		return false
	}
	for i, k := range keys {
		if k < 0 || k >= len(s.Fields) || slices.Contains(keys[:i], k) {
			return false
		}
	}
	return true
}
