package crash

import (
	"iter"
	"slices"

	"dedup/api"
	"dedup/model"
)

// Explain tells whether the model can explain what was told; if it can't, the first life that it can't.
func Explain(lives []api.Life, t api.Tale) (bool, int) {
	if len(t.Lives) != len(lives) {
		return false, 0
	}
	worlds := []*model.World{model.New()}
	behind := slices.Values(worlds)
	for i, life := range lives {
		x := t.Lives[i]
		if !x.Mounted {
			continue // whoever mounts next may find what this one might have found
		}
		if !mayBe(life, x) {
			return false, i
		}
		worlds = slices.DeleteFunc(withItems(behind, x.Items), func(w *model.World) bool { return !tells(w, life.Ops, x) })
		if len(worlds) == 0 {
			return false, i
		}
		behind = worldsBehind(worlds, life.Ops, x)
	}
	if len(withItems(behind, t.End)) == 0 {
		return false, len(lives)
	}
	return true, 0
}

// mayBe tells whether the numbers of a life that was told agree with one another.
func mayBe(life api.Life, x api.Lived) bool {
	return len(x.Results) == len(life.Ops) && x.Ended >= 0 && x.Ended <= x.Begun && x.Begun <= len(life.Ops)
}

// withItems is those of some worlds that have these items, as a mount finds them. Of several with the same next number, which are the same then, one will do.
func withItems(worlds iter.Seq[*model.World], items []api.Item) []*model.World {
	var l []*model.World
	seen := map[int]struct{}{}
	for w := range worlds {
		if _, already := seen[w.Next()]; already || !slices.Equal(w.Items(), items) {
			continue
		}
		seen[w.Next()] = struct{}{}
		l = append(l, w.Restart())
	}
	return l
}

// tells tells whether a world tells what was told of all operations that ended. It stays as it is.
func tells(w *model.World, ops []api.Op, x api.Lived) bool {
	w = w.Fork()
	for i, o := range ops[:x.Ended] {
		if !follow(w, o, x.Results[i]) {
			return false
		}
	}
	return true
}

// follow does an operation in a world, if it was not refused for want of room; false, if the world tells something else of it.
func follow(w *model.World, o api.Op, told api.Result) bool {
	if model.Same(told, api.Result{Err: api.ENoSpc}) && mayLackRoom(w, o) {
		return true
	}
	return model.Same(w.Do(o), told)
}

// mayLackRoom tells whether an operation would change something in a world, so that it may be refused for want of room.
func mayLackRoom(w *model.World, o api.Op) bool {
	if o.Kind == api.OpClose || o.Kind == api.OpRemount {
		return false
	}
	return model.Mutates(o, w.Fork().Do(o))
}

// worldsBehind goes over what some worlds are behind each number of a life's operations that a mount may find. They go on when the next one is asked for.
func worldsBehind(worlds []*model.World, ops []api.Op, x api.Lived) iter.Seq[*model.World] {
	return func(yield func(*model.World) bool) {
		least := lasting(ops, x)
		for _, w := range worlds {
			w = w.Fork()
			for n := range x.Begun + 1 {
				if n >= least && !yield(w) {
					return
				}
				if n < x.Ended {
					follow(w, ops[n], x.Results[n])
				} else if n < x.Begun {
					w.Do(ops[n])
				}
			}
		}
	}
}

// lasting is how many operations any mount finds: those up to the last sync that ended.
func lasting(ops []api.Op, x api.Lived) int {
	for i, o := range slices.Backward(ops[:x.Ended]) {
		if (o.Kind == api.OpFsync || o.Kind == api.OpSync) && x.Results[i].Err == api.OK {
			return i + 1
		}
	}
	return 0
}
