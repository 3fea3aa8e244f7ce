package sha

import (
	"sync"

	"dedup/api"
)

// maxWorkers is how many goroutines find sums at most.
const maxWorkers = 64

// job is bytes whose sum is asked, and their place in the list.
type job struct {
	place int
	bytes []byte
}

// found is the sum of the bytes at a place.
type found struct {
	place int
	sum   [32]byte
}

// Many is the sum of each of l, found by so many workers.
func Many(l [][]byte, workers int) ([][32]byte, api.Errno) {
	if workers < 1 || workers > maxWorkers {
		return nil, api.ErrArg
	}
	jobs := make(chan job)
	sums := make(chan found)
	var running sync.WaitGroup
	for range min(workers, len(l)) {
		running.Add(1)
		go work(jobs, sums, &running)
	}
	all := share(l, jobs, sums)
	close(jobs)
	running.Wait()
	return all, api.OK
}

// work finds sums until there are no more jobs.
func work(jobs <-chan job, sums chan<- found, running *sync.WaitGroup) {
	defer running.Done()
	for j := range jobs {
		sums <- found{j.place, Sum(j.bytes)}
	}
}

// share hands out the jobs and takes in their sums, whichever can go on: a worker takes no job while its sum is waited for by nobody.
func share(l [][]byte, jobs chan<- job, sums <-chan found) [][32]byte {
	all := make([][32]byte, len(l))
	sent, told := 0, 0
	for sent < len(l) {
		select {
		case jobs <- job{sent, l[sent]}:
			sent++
		case f := <-sums:
			all[f.place] = f.sum
			told++
		}
	}
	for ; told < len(l); told++ {
		f := <-sums
		all[f.place] = f.sum
	}
	return all
}
