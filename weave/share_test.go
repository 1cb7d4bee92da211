package weave

import (
	"sync/atomic"
	"testing"
	"time"
)

// TestShare lets the first pieces of work wait until there are as many of them as workers: with fewer goroutines they would
// wait for ever. Nor may there be more at once.
func TestShare(t *testing.T) {
	for workers := int32(1); workers <= mostWorkers; workers++ {
		var begun, going, wrong atomic.Int32
		full := make(chan struct{})
		work := func(n int) int {
			if going.Add(1) > workers {
				wrong.Add(1)
			}
			defer going.Add(-1)
			if begun.Add(1) == workers {
				close(full)
			}
			select {
			case <-full:
				time.Sleep(time.Millisecond) // one more would come meanwhile
			case <-time.After(20 * time.Second):
				wrong.Add(1)
			}
			return n * n
		}
		items := make([]int, 3*workers)
		for i := range items {
			items[i] = i
		}
		results := share(items, int(workers), work)
		if wrong.Load() > 0 || going.Load() > 0 || len(results) != len(items) {
			t.Fatalf("K2: other than %d goroutines take items, or they go on", workers)
		}
		for i, got := range results {
			if got != i*i {
				t.Fatalf("K2: %d workers made %d of %d", workers, got, i)
			}
		}
	}
}
