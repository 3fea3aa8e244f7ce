package cache_test

import (
	"bytes"
	"math"
	"math/rand"
	"slices"
	"testing"

	"dedup/api"
	"dedup/cache"
	"dedup/disk"
)

// plainFrame is a frame and its bytes.
type plainFrame struct {
	api.Frame
	bytes []byte
}

// plain is a cache by the chapter's words: a list of frames, the one used longest ago first, that is looked through.
type plain struct {
	d      *disk.Disk
	room   int
	frames []plainFrame
	counts api.Caching
}

func (p *plain) find(sector int) int {
	return slices.IndexFunc(p.frames, func(f plainFrame) bool { return f.Sector == sector })
}

// use puts a frame at the list's end.
func (p *plain) use(at int) *plainFrame {
	f := p.frames[at]
	p.frames = append(slices.Delete(p.frames, at, at+1), f)
	return &p.frames[len(p.frames)-1]
}

func (p *plain) makeRoom() api.Errno {
	if len(p.frames) < p.room {
		return api.OK
	}
	at := slices.IndexFunc(p.frames, func(f plainFrame) bool { return f.Pins == 0 })
	if at < 0 {
		return api.ErrFull
	}
	if p.frames[at].Dirty {
		p.writeUpTo(p.frames[at].Order)
	}
	p.frames = slices.Delete(p.frames, at, at+1)
	p.counts.Gone++
	return api.OK
}

func (p *plain) get(sector, pins int) ([]byte, api.Errno) {
	at := p.find(sector)
	if at >= 0 {
		p.counts.Hits++
	} else {
		b, e := p.d.Read(sector)
		if e != api.OK {
			return nil, e
		}
		p.counts.Misses++
		if e := p.makeRoom(); e != api.OK {
			return nil, e
		}
		p.frames = append(p.frames, plainFrame{api.Frame{Sector: sector}, b})
		at = len(p.frames) - 1
	}
	f := p.use(at)
	f.Pins += pins
	return f.bytes, api.OK
}

func (p *plain) unpin(sector int) api.Errno {
	at := p.find(sector)
	if at < 0 || p.frames[at].Pins == 0 {
		return api.ErrPins
	}
	p.frames[at].Pins--
	return api.OK
}

func (p *plain) put(sector int, b []byte, order uint64) api.Errno {
	if sector < 0 || sector >= p.d.Count() || len(b) != p.d.Size() {
		return api.ErrSector
	}
	at := p.find(sector)
	if at >= 0 && p.frames[at].Dirty && p.frames[at].Order > order {
		return api.ErrOrder
	}
	if at < 0 {
		if e := p.makeRoom(); e != api.OK {
			return e
		}
		p.frames = append(p.frames, plainFrame{Frame: api.Frame{Sector: sector}})
		at = len(p.frames) - 1
	}
	f := p.use(at)
	f.bytes, f.Dirty, f.Order = slices.Clone(b), true, order
	return api.OK
}

// writeUpTo writes the lowest dirty one, as long as there is one.
func (p *plain) writeUpTo(order uint64) {
	for {
		var best *plainFrame
		for i := range p.frames {
			f := &p.frames[i]
			if f.Dirty && f.Order <= order && (best == nil || f.Order < best.Order || f.Order == best.Order && f.Sector < best.Sector) {
				best = f
			}
		}
		if best == nil {
			return
		}
		p.d.Write(best.Sector, best.bytes)
		best.Dirty, best.Order = false, 0
		p.counts.Writes++
	}
}

func (p *plain) drop() int {
	before := len(p.frames)
	p.frames = slices.DeleteFunc(p.frames, func(f plainFrame) bool { return !f.Dirty && f.Pins == 0 })
	return before - len(p.frames)
}

// step does one thing by chance to both, and holds what they tell.
func step(t *testing.T, r *rand.Rand, c *cache.Cache, p *plain) {
	t.Helper()
	sector := r.Intn(p.d.Count()+2) - 1
	order := uint64(r.Intn(6))
	if r.Intn(8) == 0 {
		order = math.MaxUint64 - order
	}
	var got, want []byte
	var e, f api.Errno
	what := r.Intn(20)
	switch what {
	case 0, 1, 2, 3:
		got, e = c.Get(sector)
		want, f = p.get(sector, 0)
	case 4, 5:
		got, e = c.Pin(sector)
		want, f = p.get(sector, 1)
	case 6, 7, 8, 9:
		e, f = c.Unpin(sector), p.unpin(sector)
	case 10, 11, 12, 13, 14, 15:
		b := fill(byte(r.Intn(256)))
		if r.Intn(40) == 0 {
			b = b[1:]
		}
		e, f = c.Put(sector, b, order), p.put(sector, b, order)
	case 16, 17:
		e = c.WriteUpTo(order)
		p.writeUpTo(order)
	case 18:
		e = c.Sync()
		p.writeUpTo(math.MaxUint64)
		p.d.Flush()
	case 19:
		if n, m := c.Drop(), p.drop(); n != m {
			t.Fatal("Drop", n, "want", m)
		}
	}
	if e != f || !bytes.Equal(got, want) {
		t.Fatal("call", what, "of", sector, order, "told", e, "want", f)
	}
}

// wantAsPlain holds all that is told of a cache and of its disk.
func wantAsPlain(t *testing.T, c *cache.Cache, d *disk.Disk, p *plain) {
	t.Helper()
	var l []api.Frame
	for _, f := range p.frames {
		l = append(l, f.Frame)
	}
	wantFrames(t, c, l...)
	if c.Counts() != p.counts {
		t.Fatal("counts", c.Counts(), "want", p.counts)
	}
	wantPending(t, d, p.d.Pending()...)
	r, w, f := d.Counts()
	if x, y, z := p.d.Counts(); r != x || w != y || f != z {
		t.Fatal("the disk's counts", r, w, f, "want", x, y, z)
	}
	if !bytes.Equal(d.Image(), p.d.Image()) {
		t.Fatal("the images differ")
	}
	if t.Failed() {
		t.FailNow()
	}
}

// TestAsPlain: P8.2 to P8.5: whatever is done, all is told, and the disk is used, as by the plain one.
func TestAsPlain(t *testing.T) {
	r := rand.New(rand.NewSource(8))
	for range 120 {
		sectors, frames := 1+r.Intn(12), 1+r.Intn(10)
		c, d := newCache(t, sectors, frames)
		p := &plain{d: d.Fork(), room: frames}
		for range 300 {
			step(t, r, c, p)
			wantAsPlain(t, c, d, p)
		}
	}
}
