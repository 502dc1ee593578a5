package query

import (
	"slices"
	"sync"
	"sync/atomic"

	"amanuensis/api"
)

// nobody and nothing stand for no worker, and for no cell.
const (
	nobody  = -1
	nothing = -1
)

// round is one question: workers bring cells up to date, on a draft of what the sheet knows,
// so that a question which takes too many runs leaves nothing behind.
type round struct {
	cells    []cell
	memories []memory // each is written by who brings its cell up to date, and read by others only behind that
	runs     []atomic.Int64
	left     atomic.Int64 // how many more runs there may be; below 0: too many were needed

	mutex sync.Mutex // ahead of all that follows
	fresh []bool
	hands []int           // of each cell: the worker who brings it up to date
	done  []chan struct{} // of each cell that one brings up to date: closed when it is so
	waits []int           // of each worker: the cell for which he waits
}

func (s *Sheet) round(workers, most int) *round {
	r := &round{
		cells:    s.cells,
		memories: slices.Clone(s.memories),
		runs:     make([]atomic.Int64, len(s.cells)),
		fresh:    slices.Clone(s.fresh),
		hands:    slices.Repeat([]int{nobody}, len(s.cells)),
		done:     make([]chan struct{}, len(s.cells)),
		waits:    slices.Repeat([]int{nothing}, workers),
	}
	r.left.Store(int64(most))
	return r
}

// ask has cells brought up to date by workers. Are more than `most` runs needed, it answers false, and the sheet stays as it is.
func (s *Sheet) ask(keys []int, workers, most int) bool {
	r := s.round(workers, most)
	r.serve(keys, workers)
	if r.left.Load() < 0 {
		return false
	}
	s.memories, s.fresh = r.memories, r.fresh
	for k := range s.runs {
		s.runs[k] += int(r.runs[k].Load())
	}
	return true
}

// serve hands the cells out to the workers, and ends when all of these have ended.
func (r *round) serve(keys []int, workers int) {
	work := make(chan int)
	var crew sync.WaitGroup
	for w := range workers {
		crew.Add(1)
		go func() {
			defer crew.Done()
			for k := range work {
				r.bring(w, k)
			}
		}()
	}
	for _, k := range keys {
		work <- k
	}
	close(work)
	crew.Wait()
}

// What becomes of a worker who wants a cell brought up to date.
type claim int

const (
	ready claim = iota // it is
	taken              // he has to do it
	busy               // he has to wait
	ring               // it is led to what he is doing
)

// bring brings a cell up to date, or waits for who does, and gives its outcome.
func (r *round) bring(w, k int) outcome {
	switch how, done := r.take(w, k); how {
	case ring:
		return outcome{err: api.ErrRing}
	case busy:
		<-done
	case taken:
		if !r.holds(w, k) {
			r.memories[k] = r.run(w, k)
		}
		r.release(k)
	}
	return r.memories[k].outcome
}

// holds tells whether what a cell remembers is still so. Each cell that is looked at for it is one to which the rule
// would be led now, too, since all ahead of it have the outcomes that they had: so who comes back is in a ring indeed.
func (r *round) holds(w, k int) bool {
	for _, l := range r.memories[k].led {
		if r.bring(w, l.key) != l.had {
			return false
		}
	}
	return r.memories[k].ran
}

// run runs the rule of a cell, unless there have been enough runs.
func (r *round) run(w, k int) memory {
	if r.left.Add(-1) < 0 {
		return memory{outcome: outcome{err: api.ErrCancel}}
	}
	r.runs[k].Add(1)
	m := memory{ran: true}
	c := &r.cells[k]
	for at, more := c.next(nil); more; at, more = c.next(m.led) {
		l := lead{at, r.bring(w, at)}
		m.led = append(m.led, l)
		if l.had.err != api.OK {
			m.outcome = l.had
			return m
		}
	}
	m.outcome.number = c.reckon(m.led)
	return m
}

// take finds out what a worker has to do for a cell. That it is led back, and that he waits if it is not,
// is one step: of two who would wait for each other, the second one finds the ring.
func (r *round) take(w, k int) (claim, <-chan struct{}) {
	r.mutex.Lock()
	defer r.mutex.Unlock()
	if r.fresh[k] {
		return ready, nil
	}
	if r.hands[k] == nobody {
		r.hands[k] = w
		r.done[k] = make(chan struct{})
		return taken, nil
	}
	if r.leadsBack(w, k) {
		return ring, nil
	}
	r.waits[w] = k
	return busy, r.done[k]
}

// leadsBack tells whether a cell that one brings up to date is the worker's own, or waits, by whomever, for one of his.
func (r *round) leadsBack(w, k int) bool {
	for k != nothing && r.hands[k] != w {
		k = r.waits[r.hands[k]]
	}
	return k != nothing
}

// release makes a cell one that is up to date, and lets go who waits for it.
func (r *round) release(k int) {
	r.mutex.Lock()
	defer r.mutex.Unlock()
	r.fresh[k] = true
	r.hands[k] = nobody
	for w, at := range r.waits {
		if at == k {
			r.waits[w] = nothing
		}
	}
	close(r.done[k])
}
