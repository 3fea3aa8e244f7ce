package journal_test

import (
	"bytes"
	"math"
	"slices"
	"testing"

	"dedup/api"
	"dedup/journal"
)

// lay puts sectors at their places of an image.
func lay(image []byte, size int, l []api.Sector) {
	for _, s := range l {
		copy(image[s.N*size:(s.N+1)*size], s.Bytes)
	}
}

// wantFound holds what is found of an image: how many sectors, and which records.
func wantFound(t *testing.T, size int, generation uint64, image []byte, sectors int, records ...string) {
	t.Helper()
	if got, e := journal.Scan(size, generation, image); e != api.OK || !slices.Equal(got, records) {
		t.Errorf("Scan: error %d, %d records %.99q, want %d", e, len(got), got, len(records))
	}
	if got, e := journal.Sectors(size, generation, image); e != api.OK || got != sectors {
		t.Errorf("Sectors: error %d, %d, want %d", e, got, sectors)
	}
}

// TestScanArguments: P7.3, which sizes and images may be.
func TestScanArguments(t *testing.T) {
	refused := func(size int, image []byte) {
		t.Helper()
		if l, e := journal.Scan(size, 1, image); e != api.ErrArg || len(l) != 0 {
			t.Error("Scan", size, len(image), e)
		}
		if n, e := journal.Sectors(size, 1, image); e != api.ErrArg || n != 0 {
			t.Error("Sectors", size, len(image), e)
		}
	}
	one := sector(512, 1, 0, 5, framed("a"))
	for _, size := range []int{0, 1, -1, 24, 256, 511, 513, 1536, 8192, -512, math.MaxInt, math.MinInt} {
		refused(size, bytes.Repeat(one, 48))
	}
	for _, size := range []int{512, 1024, 2048, 4096} {
		for _, length := range []int{0, 1, 24, size - 1, size + 1, 2*size + size/2, 4097 * size} {
			refused(size, make([]byte, length))
		}
		refused(size, nil)
		wantFound(t, size, 1, make([]byte, size), 0)
		wantFound(t, size, 1, make([]byte, 4096*size), 0)
	}
	wantFound(t, 512, 1, one, 1, "a")
	wantFound(t, 512, 1, append(slices.Clone(one), make([]byte, 512*4095)...), 1, "a")
}

// TestRight: P7.3, P7.6: the sectors up to the first one that is not right, and why one is not, though its check sum is.
func TestRight(t *testing.T) {
	const g = 0x0102030405060708
	first := sector(512, g, 0, 5, framed("a"))
	with := func(second []byte) []byte {
		return slices.Concat(first, second, sector(512, g, 2, 5, framed("c")))
	}
	wantFound(t, 512, g, with(sector(512, g, 1, 5, framed("b"))), 3, "a", "b", "c")
	wantFound(t, 512, g, with(sector(512, g, 1, 0, nil)), 3, "a", "c")
	wantFound(t, 512, g, with(sector(512, g, 1, 488, framed("b", long(479)))), 3, "a", "b", long(479), "c")
	for what, second := range map[string][]byte{
		"zeros":                     make([]byte, 512),
		"another place":             sector(512, g, 2, 5, framed("b")),
		"the first one's place":     first,
		"another place's high byte": sector(512, g, 1<<24+1, 5, framed("b")),
		"the generation ahead":      sector(512, g-1, 1, 5, framed("b")),
		"the generation behind":     sector(512, g+1, 1, 5, framed("b")),
		"another high byte":         sector(512, g+1<<56, 1, 5, framed("b")),
		"used above the room":       sector(512, g, 1, 489, framed("b")),
		"used far above it":         sector(512, g, 1, math.MaxUint32, framed("b")),
		"used 2^31":                 sector(512, g, 1, 1<<31, framed("b")),
		"used too few":              sector(512, g, 1, 4, framed("b")),
		"a byte behind the used":    sector(512, g, 1, 5, append(framed("b"), 0, 1)),
		"the last byte":             sector(512, g, 1, 5, append(framed("b"), slices.Concat(make([]byte, 482), []byte{1})...)),
		"another mark":              withMark("DJRM", sector(512, g, 1, 5, framed("b"))),
		"no mark":                   withMark("\x00\x00\x00\x00", sector(512, g, 1, 5, framed("b"))),
	} {
		t.Run(what, func(t *testing.T) { wantFound(t, 512, g, with(second), 1, "a") })
	}
}

// withMark is a sector with other letters ahead, and the check sum of these.
func withMark(letters string, b []byte) []byte {
	copy(b, letters)
	return withSum(slices.Concat(b[:20], b[24:]), b[:20], b[24:])
}

// TestTurnedBits: P7.3: a sector with a bit turned, anywhere, is not right.
func TestTurnedBits(t *testing.T) {
	image := slices.Concat(sector(512, 6, 0, 5, framed("a")), sector(512, 6, 1, 300, framed(long(296))))
	wantFound(t, 512, 6, image, 2, "a", long(296))
	for i := 512; i < 1024; i++ {
		for bit := range 8 {
			image[i] ^= 1 << bit
			if n, e := journal.Sectors(512, 6, image); n != 1 || e != api.OK {
				t.Fatal("a bit of byte", i-512, "turned:", n, e)
			}
			image[i] ^= 1 << bit
		}
	}
}

// TestSums: P7.3: the check sum is of the 20 bytes ahead and of all the room, not of a part.
func TestSums(t *testing.T) {
	b := sector(512, 1, 0, 5, framed("a"))
	for _, summed := range [][]byte{b[:20], b[24:], b[24:29], slices.Concat(b[:20], b[24:29]), slices.Concat(b[:20], make([]byte, 4), b[24:])} {
		wantFound(t, 512, 1, withSum(summed, b[:20], b[24:]), 0)
	}
}

// TestStreams: P7.3: the records of a stream that are whole; a length above 65536 ends them.
func TestStreams(t *testing.T) {
	most := long(65536)
	for _, c := range []struct {
		what    string
		stream  []byte
		records []string
	}{
		{"nothing", nil, nil},
		{"three bytes", []byte{0, 0, 0}, nil},
		{"a length alone", []byte{0, 0, 0, 1}, nil},
		{"an empty record", []byte{0, 0, 0, 0}, []string{""}},
		{"three empty ones, and a piece", make([]byte, 15), []string{"", "", ""}},
		{"one whole, one not", append(framed("abc"), 0, 0, 0, 2, 'x'), []string{"abc"}},
		{"the longest", framed("a", most, "b"), []string{"a", most, "b"}},
		{"one too long", framed("a", long(65537), "b"), []string{"a"}},
		{"one far too long", slices.Concat(framed("a"), []byte{0xff, 0xff, 0xff, 0xff}, framed("b")), []string{"a"}},
		{"one of 2^31", slices.Concat(framed("a"), []byte{0x80, 0, 0, 0}, framed("b")), []string{"a"}},
		{"one that ends a byte too early", framed("a", most)[:5+4+65535], []string{"a"}},
	} {
		image := make([]byte, 200*512)
		lay(image, 512, cutUp(c.stream, 512, 8))
		t.Run(c.what, func(t *testing.T) {
			wantFound(t, 512, 8, image, (len(c.stream)+487)/488, c.records...)
		})
	}
}

// cutUp is a stream's sectors.
func cutUp(stream []byte, size int, generation uint64) []api.Sector {
	var l []api.Sector
	for b := range slices.Chunk(stream, size-24) {
		l = append(l, api.Sector{N: len(l), Bytes: sector(size, generation, len(l), len(b), b)})
	}
	return l
}

// TestStreamOfParts: P7.3: rooms that are not full, and empty ones, are joined all the same: a record may lie across them.
func TestStreamOfParts(t *testing.T) {
	stream := framed("hello", "world")
	var image []byte
	for i, piece := range [][]byte{stream[:2], nil, stream[2:3], stream[3:7], nil, nil, stream[7:16], stream[16:]} {
		image = append(image, sector(1024, 5, i, len(piece), piece)...)
	}
	wantFound(t, 1024, 5, image, 8, "hello", "world")
	wantFound(t, 1024, 5, image[:7*1024], 7, "hello")
	wantFound(t, 1024, 5, image[:3*1024], 3)
}

// TestImageIsLeft: R3: an image is not changed, and the records keep nothing of it.
func TestImageIsLeft(t *testing.T) {
	image := slices.Concat(sector(512, 5, 0, 7, framed("abc")), make([]byte, 512))
	before := slices.Clone(image)
	wantFound(t, 512, 5, image, 1, "abc")
	if !bytes.Equal(image, before) {
		t.Error("the image has changed")
	}
	l, _ := journal.Scan(512, 5, image)
	clear(image)
	if l[0] != "abc" {
		t.Error("a record has changed", l)
	}
}
