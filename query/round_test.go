package query

import (
	"runtime"
	"testing"

	"amanuensis/api"
)

// takes holds what each worker has to do for a cell against what he should.
func takes(t *testing.T, r *round, cases []struct {
	w, k int
	want claim
}) {
	t.Helper()
	for i, c := range cases {
		if got, _ := r.take(c.w, c.k); got != c.want {
			t.Fatalf("%d: worker %d, cell %d: got %d, want %d", i, c.w, c.k, got, c.want)
		}
	}
}

// Of workers who would wait for each other, the last one finds the ring.
func TestQ5WhoFindsTheRing(t *testing.T) {
	r := sheet(t, input(), low(0), low(2), low(3), low(4), low(5)).round(4, api.MaxKeys)
	type ask = struct {
		w, k int
		want claim
	}
	takes(t, r, []ask{
		{0, 0, ready},
		{0, 1, taken}, {0, 1, ring}, {0, 2, taken}, {0, 1, ring}, {0, 2, ring},
		{1, 3, taken}, {2, 4, taken}, {3, 5, taken},
		{1, 4, busy}, {3, 3, busy}, // 3 waits for 1, who waits for 2
		{2, 5, ring}, {2, 3, ring}, {2, 4, ring},
		{2, 1, busy}, // who is none of the three
		{0, 5, ring}, {0, 3, ring}, {0, 4, ring},
	})
	r.release(2)
	takes(t, r, []ask{{0, 2, ready}, {0, 4, ring}})
	r.release(1) // worker 2 waits for it no longer
	takes(t, r, []ask{{0, 4, busy}})
	takes(t, r, []ask{{2, 1, ready}, {2, 5, ring}})
	r.release(4)
	takes(t, r, []ask{{2, 5, busy}, {0, 3, busy}, {1, 5, ring}})
}

// awaits lets others go on till a worker waits for a cell.
func awaits(r *round, w, k int) {
	for {
		r.mutex.Lock()
		at := r.waits[w]
		r.mutex.Unlock()
		if at == k {
			return
		}
		runtime.Gosched()
	}
}

// Who waits has the outcome that the other one finds, and has run no rule for it.
func TestQ5WhoWaits(t *testing.T) {
	r := sheet(t, input(), low(0), add(1, 1), low(1)).round(3, api.MaxKeys)
	r.take(0, 1)
	found := make(chan outcome)
	for w, k := range []int{2, 3} {
		go func() { found <- r.bring(w+1, k) }()
	}
	within(t, func() {
		awaits(r, 1, 1)
		awaits(r, 2, 1)
		r.memories[1].outcome.number = 3
		r.release(1)
		if a, b := <-found, <-found; a.number+b.number != 6+3 || a.err != api.OK || b.err != api.OK {
			t.Errorf("%v, %v", a, b)
		}
	})
	for k, want := range []int64{0, 0, 1, 1} {
		if got := r.runs[k].Load(); got != want {
			t.Errorf("cell %d was run %d times", k, got)
		}
	}
}

// Two who meet in one ring, each in a cell of his own, end both.
func TestQ5WhoMeetInARing(t *testing.T) {
	s := sheet(t, low(1), low(0))
	within(t, func() {
		r := s.round(2, api.MaxKeys)
		r.take(0, 0)
		found := make(chan outcome)
		go func() { found <- r.bring(1, 1) }()
		awaits(r, 1, 0)
		r.memories[0] = r.run(0, 0) // comes to 1, whose worker waits for 0
		r.release(0)
		out := outcome{err: api.ErrRing}
		if got := <-found; got != out || r.memories[0].outcome != out || r.memories[1].outcome != out {
			t.Errorf("%v, %v", got, r.memories)
		}
		if a, b := r.runs[0].Load(), r.runs[1].Load(); a != 1 || b != 1 {
			t.Errorf("%d and %d runs", a, b)
		}
	})
}

// What a rule looks at is found once, whoever asks.
func TestQ5LooksAreFoundOnce(t *testing.T) {
	c := cell{rule: pick(7, 8, 9)}
	first := c.looksAt()
	if again := c.looksAt(); len(first) != 3 || &again[0] != &first[0] {
		t.Errorf("%v, %v", first, again)
	}
}
