package order

import (
	"cmp"
	"slices"
	"strings"
	"sync"
)

// piece is some rows in order, and which piece of all rows they are.
type piece struct {
	number int
	rows   []int
}

// sorted tells the numbers of rows in the order of their marks, of alike ones the lower one first: pieces of them, sorted each by a worker of its own, and merged.
func sorted(marks []string, workers int) []int {
	compare := func(a, b int) int {
		if c := strings.Compare(marks[a], marks[b]); c != 0 {
			return c
		}
		return cmp.Compare(a, b)
	}
	return merged(sortedPieces(len(marks), workers, compare), compare)
}

// sortedPieces tells the numbers of n rows in as many pieces as there are workers, each in order.
func sortedPieces(n, workers int, compare func(a, b int) int) [][]int {
	done := make(chan piece, workers) // with room for all: no worker waits for being heard
	var all sync.WaitGroup
	for k := range workers {
		all.Add(1)
		go func() {
			defer all.Done()
			rows := numbers(n*k/workers, n*(k+1)/workers)
			slices.SortFunc(rows, compare)
			done <- piece{k, rows}
		}()
	}
	all.Wait()
	return taken(done, workers)
}

// taken takes the pieces out of a channel into which nobody sends any more. They come as their workers were done, and are laid by their numbers.
func taken(done chan piece, n int) [][]int {
	pieces := make([][]int, n)
	for {
		select {
		case p := <-done:
			pieces[p.number] = p.rows
		default:
			return pieces
		}
	}
}

// numbers tells the numbers from one up to ahead of another one.
func numbers(from, to int) []int {
	l := make([]int, to-from)
	for i := range l {
		l[i] = from + i
	}
	return l
}

// mergedBatches tells the places of batches' rows, batch and row, in the order of their marks, which stand in order in each batch.
func mergedBatches(marks [][]string) [][2]int {
	places := make([][][2]int, len(marks))
	for k, m := range marks {
		for i := range m {
			places[k] = append(places[k], [2]int{k, i})
		}
	}
	return merged(places, func(a, b [2]int) int {
		return strings.Compare(marks[a[0]][a[1]], marks[b[0]][b[1]])
	})
}

// merged makes one list in order out of lists in order; of alike elements that of the earlier list comes first. It goes by halves: so each element is moved few times, however many lists there are.
func merged[T any](lists [][]T, compare func(a, b T) int) []T {
	switch len(lists) {
	case 0:
		return nil
	case 1:
		return lists[0]
	}
	half := len(lists) / 2
	return mergedTwo(merged(lists[:half], compare), merged(lists[half:], compare), compare)
}

// mergedTwo makes one list in order out of two.
func mergedTwo[T any](a, b []T, compare func(a, b T) int) []T {
	l := make([]T, 0, len(a)+len(b))
	for len(a) > 0 && len(b) > 0 {
		if compare(b[0], a[0]) < 0 {
			l, b = append(l, b[0]), b[1:]
		} else {
			l, a = append(l, a[0]), a[1:]
		}
	}
	return append(append(l, a...), b...)
}
