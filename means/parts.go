package means

import (
	"slices"

	"burnbag/api"
	"burnbag/field"
	"burnbag/line"
	"burnbag/rows"
	"burnbag/ways"
)

// What Store tells as N.
const (
	storedNew = iota
	storedAnew
	storedInstead
)

// full is the slot of each way that isn't empty: which one it is doesn't matter here.
const full = 1

// sessions is rows of sessions.
type sessions struct {
	open []api.Row
}

// cache is the sets of a cache.
type cache struct {
	sets [api.Sets]set
}

// set is a set of ways, and what each way that isn't empty has.
type set struct {
	ways.Set
	has [api.Ways]api.Row
}

// queue is pairs in a line.
type queue struct {
	waiting line.Line[api.Pair]
}

// nodes is raw nodes that are live, as rows whose keys are the handles as numbers, and all handles that were ever told, rising.
type nodes struct {
	live []api.Row
	told []uint64
}

// onSession does a call of sessions.
func (p sessions) onSession(c api.Call) (sessions, api.Answer) {
	then := p
	switch c.Op {
	case api.Put:
		open, put := rows.Put(p.open, row(c))
		if !put {
			return p, api.Answer{Err: api.ErrExists}
		}
		return sessions{open}, api.Answer{}
	case api.Del:
		then.open, _, _ = rows.Drop(p.open, c.Key)
		fallthrough
	case api.Get:
		pair, there := find(p.open, c.Key)
		return then, found(pair, there, api.ErrNone)
	}
	return p, api.Answer{}
}

// onCache does a call of a cache.
func (p cache) onCache(c api.Call, touches bool) (cache, api.Answer) {
	which := field.Cut(field.Bits(c.Key), 0, 1)
	var a api.Answer
	p.sets[which], a = p.sets[which].onSet(c, touches)
	return p, a
}

// onSet does a call of a cache in the set that the key belongs to.
func (s set) onSet(c api.Call, touches bool) (set, api.Answer) {
	if c.Op == api.Store {
		return s.store(row(c))
	}
	i, there := s.way(c.Key)
	if !there {
		return s, api.Answer{Err: api.ErrNone}
	}
	a := api.Answer{Pair: s.has[i].Pair}
	switch {
	case c.Op == api.Drop:
		s.Set, s.has[i] = ways.Clear(s.Set, i), api.Row{}
	case touches:
		s.Set = ways.Touch(s.Set, i)
	}
	return s, a
}

// store has a set have a row, in the place of another one, if need be.
func (s set) store(x api.Row) (set, api.Answer) {
	if i, there := s.way(x.Key); there {
		s.Set, s.has[i] = ways.Touch(s.Set, i), x
		return s, api.Answer{N: storedAnew}
	}
	held, i, gone := ways.Put(s.Set, full)
	was := s.has[i]
	s.Set, s.has[i] = held, x
	if gone == full {
		return s, api.Answer{N: storedInstead, Key: was.Key}
	}
	return s, api.Answer{N: storedNew}
}

// way is the way that has a key, if one has.
func (s set) way(key int64) (int, bool) {
	for i, way := range s.Ways {
		if way.Slot == full && s.has[i].Key == key {
			return i, true
		}
	}
	return 0, false
}

// all is what the sets have, as rows that rise.
func (p cache) all() []api.Row {
	var all []api.Row
	for _, s := range p.sets {
		for i, way := range s.Ways {
			if way.Slot == full {
				all, _ = rows.Put(all, s.has[i])
			}
		}
	}
	return all
}

// onQueue does a call of a queue.
func (p queue) onQueue(c api.Call) (queue, api.Answer) {
	then := p
	switch c.Op {
	case api.Push:
		return queue{p.waiting.Push(c.Pair)}, api.Answer{}
	case api.Pop:
		then.waiting, _, _ = p.waiting.Pop()
		fallthrough
	case api.Peek:
		pair, there := p.waiting.Peek()
		return then, found(pair, there, api.ErrNone)
	}
	return p, api.Answer{}
}

// onNode does a call of raw nodes; name is the handle of a node that is made.
func (p nodes) onNode(c api.Call, name uint64) (nodes, api.Answer) {
	key := field.Number(c.Handle)
	switch c.Op {
	case api.New:
		return p.with(name, c.Pair), api.Answer{Handle: name}
	case api.Free:
		live, _, there := rows.Drop(p.live, key)
		return nodes{live, p.told}, found(api.Pair{}, there, api.ErrStale)
	}
	pair, there := find(p.live, key)
	return p, found(pair, there, api.ErrStale)
}

// with is the nodes with one more, whose handle was never told.
func (p nodes) with(name uint64, pair api.Pair) nodes {
	p.live, _ = rows.Put(p.live, api.Row{Key: field.Number(name), Pair: pair})
	at, _ := slices.BinarySearch(p.told, name)
	// Other states may have the same list, so this one's is put together anew.
	p.told = slices.Concat(p.told[:at], []uint64{name}, p.told[at:])
	return p
}

// wasTold tells whether a handle was ever told.
func (p nodes) wasTold(h uint64) bool {
	_, told := slices.BinarySearch(p.told, h)
	return told
}

// handles is the handles that are live, rising.
func (p nodes) handles() []uint64 {
	var all []uint64
	for _, x := range p.live {
		all = append(all, field.Bits(x.Key))
	}
	return all
}

// row is a call's key and pair.
func row(c api.Call) api.Row {
	return api.Row{Key: c.Key, Pair: c.Pair}
}

// find is the pair of a key, if it is there.
func find(l []api.Row, key int64) (api.Pair, bool) {
	place, there := rows.At(l, key)
	if !there {
		return api.Pair{}, false
	}
	return l[place].Pair, true
}

// found is the answer that tells a pair, if it is there, else a code.
func found(pair api.Pair, there bool, code api.Errno) api.Answer {
	if !there {
		return api.Answer{Err: code}
	}
	return api.Answer{Pair: pair}
}
