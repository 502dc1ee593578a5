package desk

import "amanuensis/api"

// request is one that waits, with no more than its answer needs.
type request struct {
	id       int
	wrong    api.Errno // that it is cancelled, or what is wrong with it whatever files there are
	came     int       // at which moment of the workspace
	do       work
	question question
}

// queue has the requests that wait.
type queue struct {
	all  []*request         // in the order in which they came
	asks map[int][]*request // by their ids those that are not cancelled, in this order, too
}

func newQueue() *queue { return &queue{asks: map[int][]*request{}} }

// put lets a request wait.
func (q *queue) put(r *request) {
	q.all = append(q.all, r)
	q.asks[r.id] = append(q.asks[r.id], r)
}

// take gives the request that has waited longest, which waits no longer.
func (q *queue) take() *request {
	r := q.all[0]
	q.all = behindFirst(q.all)
	if r.wrong == api.ErrCancel {
		return r
	}
	// Of those with its id it has waited longest, too.
	if rest := behindFirst(q.asks[r.id]); rest != nil {
		q.asks[r.id] = rest
	} else {
		delete(q.asks, r.id)
	}
	return r
}

// behindFirst gives a list without its first one, which is then kept no longer; nil, if nothing is left.
func behindFirst(all []*request) []*request {
	if len(all) == 1 {
		return nil
	}
	all[0] = nil
	return all[1:]
}

// cancel cancels all that wait with an id; nothing else is needed of them then.
func (q *queue) cancel(id int) {
	for _, r := range q.asks[id] {
		*r = request{id: id, wrong: api.ErrCancel}
	}
	delete(q.asks, id)
}
