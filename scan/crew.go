package scan

import (
	"cmp"
	"slices"
	"sync"

	"colonnade/api"
)

// result is what a block was read as.
type result struct {
	block int
	batch api.Batch
	err   api.Errno
}

// crew is workers that read blocks.
type crew struct {
	todo chan int      // the numbers of blocks
	done chan result   // what they were read as
	left chan struct{} // closed when nothing more is wanted
	all  sync.WaitGroup
}

// newCrew starts so many workers.
func newCrew(workers int, read func(block int) (api.Batch, api.Errno)) *crew {
	c := &crew{todo: make(chan int, ahead), done: make(chan result, ahead), left: make(chan struct{})}
	for range workers {
		c.all.Add(1)
		go func() {
			defer c.all.Done()
			c.work(read)
		}()
	}
	return c
}

// work reads blocks till nothing more is wanted.
func (c *crew) work(read func(block int) (api.Batch, api.Errno)) {
	for {
		select {
		case <-c.left:
			return
		case k := <-c.todo:
			b, e := read(k)
			c.done <- result{k, b, e}
		}
	}
}

// read tells what some blocks, at most ahead ones, are read as, in their order. (So both channels have room for all of them, and nobody waits for being heard.)
func (c *crew) read(blocks []int) []result {
	for _, k := range blocks {
		c.todo <- k
	}
	var l []result
	for range blocks {
		l = append(l, <-c.done)
	}
	slices.SortFunc(l, func(a, b result) int { return cmp.Compare(a.block, b.block) })
	return l
}

// leave ends all workers.
func (c *crew) leave() {
	close(c.left)
	c.all.Wait()
}
