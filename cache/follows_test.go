package cache_test

import (
	"bytes"
	"math/rand"
	"testing"

	"dedup/api"
	"dedup/cache"
)

// someCall does anything by chance but a Put.
func someCall(r *rand.Rand, c *cache.Cache, sector int, order uint64) {
	switch r.Intn(7) {
	case 0, 1:
		c.Get(sector)
	case 2:
		c.Pin(sector)
	case 3, 4:
		c.Unpin(sector)
	case 5:
		c.WriteUpTo(order)
	case 6:
		c.Drop()
	}
}

// TestSameBytes: P8.6: Get tells what was put last, or what the disk had; behind Sync the disk has all that was put.
func TestSameBytes(t *testing.T) {
	r := rand.New(rand.NewSource(86))
	for range 100 {
		const sectors = 10
		c, d := newCache(t, sectors, 1+r.Intn(9))
		var last [sectors]byte
		for n := range last {
			last[n] = byte(n)
		}
		for range 200 {
			sector, order := r.Intn(sectors), uint64(r.Intn(5))
			someCall(r, c, r.Intn(sectors), uint64(r.Intn(5)))
			b := byte(r.Intn(256))
			if c.Put(sector, fill(b), order) == api.OK {
				last[sector] = b
			}
			n := r.Intn(sectors)
			if got, e := c.Get(n); e != api.ErrFull && !bytes.Equal(got, fill(last[n])) {
				t.Fatal("Get", n, e)
			}
		}
		wantErr(t, "Sync", c.Sync(), api.OK)
		wantErr(t, "Crash", d.Crash(nil), api.OK)
		for n, b := range last {
			wantDisk(t, d, n, b)
		}
	}
}

// orders is the dirty frames' orders, by their sectors.
func orders(c *cache.Cache) map[int]uint64 {
	m := map[int]uint64{}
	for _, f := range c.Frames() {
		if f.Dirty {
			m[f.Sector] = f.Order
		}
	}
	return m
}

// TestInOrder: P8.7: when bytes are written, by whichever call, no frame is dirty whose order is lower.
func TestInOrder(t *testing.T) {
	r := rand.New(rand.NewSource(87))
	for range 300 {
		c, d := newCache(t, 12, 1+r.Intn(11))
		for range 100 {
			before, done := orders(c), len(d.Pending())
			if sector := r.Intn(12); r.Intn(2) == 0 {
				someCall(r, c, sector, uint64(r.Intn(9)))
			} else {
				c.Put(sector, fill(1), uint64(r.Intn(9)))
			}
			for _, sector := range d.Pending()[done:] {
				order, ok := before[sector]
				if !ok {
					t.Fatal("a clean sector was written", sector)
				}
				delete(before, sector)
				for other, o := range before {
					if o < order {
						t.Fatal(sector, "of the order", order, "was written ahead of", other, "of", o)
					}
				}
			}
		}
	}
}

// TestPinsStay: P8.8: a frame with pins is there till it has none; there are never more frames than room.
func TestPinsStay(t *testing.T) {
	r := rand.New(rand.NewSource(88))
	for range 200 {
		room := 1 + r.Intn(6)
		c, _ := newCache(t, 12, room)
		pins := map[int]int{}
		for range 150 {
			sector := r.Intn(12)
			switch r.Intn(6) {
			case 0:
				if _, e := c.Pin(sector); e == api.OK {
					pins[sector]++
				}
			case 1, 2:
				if e := c.Unpin(sector); (e == api.OK) != (pins[sector] > 0) {
					t.Fatal("Unpin", sector, e)
				}
				pins[sector] = max(pins[sector]-1, 0)
			case 3:
				c.Put(sector, fill(2), uint64(r.Intn(4)))
			case 4:
				c.Get(sector)
			case 5:
				c.Drop()
			}
			wantPinned(t, c, room, pins)
		}
	}
}

// wantPinned holds the frames' pins, and how many frames there are.
func wantPinned(t *testing.T, c *cache.Cache, room int, pins map[int]int) {
	t.Helper()
	l := c.Frames()
	if len(l) > room {
		t.Fatal(len(l), "frames in the room of", room)
	}
	sum := 0
	for _, f := range l {
		if f.Pins != pins[f.Sector] {
			t.Fatal("pins of", f, "want", pins[f.Sector])
		}
		sum += f.Pins
	}
	for _, n := range pins {
		sum -= n
	}
	if sum != 0 {
		t.Fatal("a frame with pins was let go")
	}
}
