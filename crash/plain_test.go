package crash_test

import (
	"math/rand"
	"slices"
	"testing"

	"dedup/api"
	"dedup/crash"
	"dedup/model"
)

// plainLook looks for an explanation by trying all there are: each is the operations that were done since the first mount, with a remount for each crash.
type plainLook struct {
	lives []api.Life
	tale  api.Tale
	most  int // the furthest life that could not be explained
}

// worldOf is the world behind operations.
func worldOf(done []api.Op) *model.World {
	w := model.New()
	for _, o := range done {
		w.Do(o)
	}
	return w
}

// from tells whether the lives from one on are explained, if these operations were done ahead of it.
func (p *plainLook) from(i int, done []api.Op) bool {
	p.most = max(p.most, i)
	if i == len(p.lives) {
		return slices.Equal(worldOf(done).Items(), p.tale.End)
	}
	x, ops := p.tale.Lives[i], p.lives[i].Ops
	if !x.Mounted {
		return p.from(i+1, done)
	}
	if len(x.Results) != len(ops) || x.Ended < 0 || x.Ended > x.Begun || x.Begun > len(ops) || !slices.Equal(worldOf(done).Items(), x.Items) {
		return false
	}
	least := 0
	behind := [][]api.Op{done}
	for n, o := range ops[:x.Begun] {
		now := slices.Clone(behind[n])
		want, told := worldOf(now).Do(o), x.Results[n]
		noRoom := model.Same(told, api.Result{Err: api.ENoSpc}) && model.Mutates(o, want) && o.Kind != api.OpClose && o.Kind != api.OpRemount
		if n < x.Ended && !noRoom && !model.Same(told, want) {
			return false
		}
		if n >= x.Ended || !noRoom {
			now = append(now, o)
		}
		behind = append(behind, now)
		if n < x.Ended && told.Err == api.OK && (o.Kind == api.OpSync || o.Kind == api.OpFsync) {
			least = n + 1
		}
	}
	p.most = max(p.most, i+1)
	for _, now := range behind[least:] {
		if p.from(i+1, append(slices.Clone(now), of(api.OpRemount))) {
			return true
		}
	}
	return false
}

// plainExplain is what Explain should tell.
func plainExplain(lives []api.Life, tale api.Tale) (bool, int) {
	if len(lives) != len(tale.Lives) {
		return false, 0
	}
	p := &plainLook{lives: lives, tale: tale}
	if p.from(0, nil) {
		return true, 0
	}
	return false, p.most
}

// lossy is a tale that could be told of lives: each mount finds what the model has behind some of the operations, and now and then there is no room.
func lossy(r *rand.Rand, lives []api.Life) api.Tale {
	var tale api.Tale
	w := model.New()
	for _, life := range lives {
		x := api.Lived{Mounted: r.Intn(5) > 0, Results: make([]api.Result, len(life.Ops))}
		if !x.Mounted {
			tale.Lives = append(tale.Lives, x)
			continue
		}
		x.Items, x.Ended = w.Items(), r.Intn(len(life.Ops)+1)
		x.Begun = min(len(life.Ops), x.Ended+r.Intn(3)/2*(1+r.Intn(2)))
		found := w.Restart()
		for n, o := range life.Ops[:x.Begun] {
			next := w.Fork()
			told := next.Do(o)
			if n < x.Ended && model.Mutates(o, told) && o.Kind != api.OpClose && o.Kind != api.OpRemount && r.Intn(6) == 0 {
				x.Results[n] = api.Result{Err: api.ENoSpc}
				continue
			}
			w = next
			if n < x.Ended {
				x.Results[n] = told
			}
			if r.Intn(3) == 0 || n < x.Ended && told.Err == api.OK && (o.Kind == api.OpSync || o.Kind == api.OpFsync) {
				found = w.Restart()
			}
		}
		w = found
		tale.Lives = append(tale.Lives, x)
	}
	tale.End = w.Items()
	return tale
}

// disturb changes something of a tale.
func disturb(r *rand.Rand, tale *api.Tale) {
	i := r.Intn(len(tale.Lives))
	x, other := &tale.Lives[i], tale.Lives[r.Intn(len(tale.Lives))]
	switch r.Intn(9) {
	case 0:
		tale.End = other.Items
	case 1:
		x.Items = other.Items
	case 2:
		x.Ended += r.Intn(3) - 1
	case 3:
		x.Begun += r.Intn(3) - 1
	case 4:
		x.Mounted = !x.Mounted
	case 5:
		if n := len(x.Results); n > 0 {
			x.Results[r.Intn(n)] = api.Result{Err: []api.Errno{api.OK, api.ENoSpc, api.EExist}[r.Intn(3)]}
		}
	case 6:
		x.Results = x.Results[:len(x.Results)-min(len(x.Results), r.Intn(2))]
	case 7:
		if n := len(tale.End); n > 0 {
			tale.End[r.Intn(n)].Stat.Number++
		}
	case 8:
		if n := len(x.Items); n > 0 {
			x.Items[r.Intn(n)].Data += "x"
		}
	}
}

// fewLives is some short lives.
func fewLives(r *rand.Rand) []api.Life {
	var lives []api.Life
	for range 1 + r.Intn(4) {
		var ops []api.Op
		for range r.Intn(7) {
			ops = append(ops, anyOp(r))
		}
		lives = append(lives, api.Life{Ops: ops, Stop: r.Intn(12) - 1, Keep: []int{r.Intn(3)}})
	}
	return lives
}

// TestPlain: P29.3, P29.4: tales that the model could tell, and others, are explained just if trying all explanations finds one; which life can't be explained is the furthest that any of them comes to.
func TestPlain(t *testing.T) {
	count := map[bool]int{}
	at := map[int]int{}
	for seed := range 6000 {
		r := rand.New(rand.NewSource(int64(seed)))
		lives := fewLives(r)
		tale := lossy(r, lives)
		if r.Intn(4) == 0 {
			tale = crash.Play(someShape(), lives)
		}
		for changes := range 4 {
			wantOk, wantAt := plainExplain(lives, tale)
			ok, got := crash.Explain(lives, tale)
			if ok != wantOk || got != wantAt {
				t.Fatalf("seed %d, %d changes: %v %d, want %v %d\n%+v\n%+v", seed, changes, ok, got, wantOk, wantAt, lives, tale)
			}
			if changes == 0 && !ok {
				t.Fatalf("seed %d: not explained %d\n%+v\n%+v", seed, got, lives, tale)
			}
			count[ok]++
			if !ok {
				at[len(lives)-got]++
			}
			disturb(r, &tale)
		}
	}
	if count[true] < 5000 || count[false] < 5000 || at[0] < 100 || at[1] < 100 || at[2] < 100 || at[3] < 100 {
		t.Error("met", count, at)
	}
}
