package weave

import "sync"

// share lets workers work on items, and answers when all of them are done.
func share[T, R any](items []T, workers int, work func(T) R) []R {
	if len(items) == 0 {
		return nil
	}
	results := make([]R, len(items))
	numbers := make(chan int)
	var group sync.WaitGroup
	for range workers {
		group.Add(1)
		go func() {
			defer group.Done()
			for i := range numbers {
				results[i] = work(items[i]) // no other worker takes this number
			}
		}()
	}
	for i := range items {
		numbers <- i
	}
	close(numbers)
	group.Wait()
	return results
}
