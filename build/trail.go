package build

// trail is how what was laid of the value under way is taken back. All nodes of one array in the making have it in common.
type trail struct {
	value int // the number of the value under way, from 1 on, refused ones counted too; 0: no way back is kept
	steps []func()
}

// begin begins the way back of a value.
func (t *trail) begin() { t.value++ }

// enter is told ahead of each row that a node lays: how it was ahead of the value's first one is how it is when that is taken back.
func (t *trail) enter(n *node) {
	if n.seen == t.value {
		return
	}
	n.seen = t.value
	t.steps = append(t.steps, kept(n), n.how.keep())
}

// back takes back all that was laid of the value.
func (t *trail) back() {
	for _, step := range t.steps {
		step()
	}
}

// end lets go of the steps.
func (t *trail) end() { t.steps = nil }

// kept tells how something is made again what it is now. Its lists only grow: so those of now are their beginnings.
func kept[T any](p *T) func() {
	old := *p
	return func() { *p = old }
}
