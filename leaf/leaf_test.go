package leaf_test

import (
	"bytes"
	"encoding/binary"
	"errors"
	"hash/crc32"
	"math"
	"slices"
	"testing"

	"buttery/api"
	"buttery/flash"
	"buttery/leaf"
	"buttery/trouble"
)

// The calls with the signatures that the chapter lists.
var (
	_ func(api.Leaf) ([]byte, error) = leaf.Put
	_ func(api.Leaf) error           = leaf.Check
	_ func([]byte) (int, int)        = leaf.Stamps
	_ func([]byte) (api.Leaf, error) = leaf.Get
	_ func(api.Leaf, api.Leaf) bool  = leaf.Same
)

// stamps is stamps that may be: both ends, both sides of a byte's ends, and one whose bytes are all unlike.
var stamps = []int{1, 2, 9, 10, 127, 128, 255, 256, 257, 65535, 65536, 1<<24 + 1, 1 << 32, 0x0102030405, api.MaxNum - 1, api.MaxNum}

// noStamps is numbers that are no stamps.
var noStamps = []int{0, -1, -9, -api.MaxNum, api.MaxNum + 1, 2 * api.MaxNum, math.MaxInt, math.MinInt, math.MinInt + 1}

// kinds is all kinds.
var kinds = []int{api.KindBucket, api.KindData, api.KindFoot, api.KindEpoch, api.KindIndex}

// noKinds is numbers that are no kinds; some of them would be one, if only a byte were asked for.
var noKinds = []int{0, -1, -3, 6, 7, 255, 256, 257, 259, math.MaxInt, math.MinInt}

// sizes is how many bytes a leaf may have.
var sizes = []int{0, 1, 2, 3, 8, 127, 128, 200, api.Room - 1, api.Room}

// noSizes is how many bytes are too many; some of them would not be, if only a byte, or two, were asked for.
var noSizes = []int{api.Room + 1, 244, 255, 256, 257, 300, api.MaxValue, 65535, 65536, 65537}

// drawn is so many bytes, none of them a nought, as if by chance, the same ones at each run.
func drawn(size int, seed uint64) []byte {
	b := make([]byte, size)
	for i := range b {
		seed = seed*6364136223846793005 + 1442695040888963407
		b[i] = byte(seed>>56)%255 + 1
	}
	return b
}

// written is how a page is written, by the chapter's words alone; its parts may be such as never stand together.
type written struct {
	first, last uint64
	kind        byte
	size        uint16
	bytes       []byte
	turn        byte // is turned in the sum's first byte
}

// of is how the page of a leaf is written.
func of(x api.Leaf) written {
	return written{
		first: uint64(x.Stamp),
		last:  uint64(x.Stamp),
		kind:  byte(x.Kind),
		size:  uint16(len(x.Bytes)),
		bytes: x.Bytes,
	}
}

// page is the page that is written so.
func (w written) page() []byte {
	b := binary.BigEndian.AppendUint64(nil, w.first)
	b = append(b, w.kind)
	b = binary.BigEndian.AppendUint16(b, w.size)
	b = append(b, w.bytes...)
	for len(b) < 244 {
		b = append(b, 0)
	}
	b = binary.LittleEndian.AppendUint32(b, crc32.ChecksumIEEE(b))
	b[244] ^= w.turn
	return binary.BigEndian.AppendUint64(b, w.last)
}

// equal tells whether two leaves are the same, without asking the program.
func equal(a, b api.Leaf) bool {
	return a.Stamp == b.Stamp && a.Kind == b.Kind && bytes.Equal(a.Bytes, b.Bytes)
}

// put is the page of a leaf that may be.
func put(t *testing.T, x api.Leaf) []byte {
	t.Helper()
	b, err := leaf.Put(x)
	if err != nil {
		t.Fatalf("Put(%v): %v", x, err)
	}
	return b
}

// wantLeaf holds what a page holds against what it should.
func wantLeaf(t *testing.T, b []byte, want api.Leaf) {
	t.Helper()
	x, err := leaf.Get(b)
	if err != nil || !equal(x, want) {
		t.Errorf("Get is %v, %v, want %v", x, err, want)
	}
}

// wantCode holds what is wrong with a page against what should be; with an error there is no leaf.
func wantCode(t *testing.T, b []byte, code api.Code) {
	t.Helper()
	x, err := leaf.Get(b)
	if trouble.Of(err) != code {
		t.Errorf("Get of %v: %v, want code %d", b, err, code)
	}
	if x.Stamp != 0 || x.Kind != 0 || len(x.Bytes) != 0 {
		t.Errorf("Get of %v: %v beside %v", b, x, err)
	}
}

// wantFault holds an error against the one link that it should have.
func wantFault(t *testing.T, err error, op string, at int, code api.Code) {
	t.Helper()
	want := []api.Step{{Op: op, At: at, Code: code}}
	if got := trouble.Chain(err); !slices.Equal(got, want) {
		t.Errorf("got %v, want %v", got, want)
	}
	if trouble.Of(err) != code || !errors.Is(err, trouble.New("", 0, code)) {
		t.Errorf("%v is not of code %d", err, code)
	}
}

// wantRefused holds Check's error, and Put's, against the one that they should answer.
func wantRefused(t *testing.T, x api.Leaf, op string, at int, code api.Code) {
	t.Helper()
	wantFault(t, leaf.Check(x), op, at, code)
	b, err := leaf.Put(x)
	wantFault(t, err, op, at, code)
	if len(b) != 0 {
		t.Errorf("Put(%v) answers %d bytes beside %v", x, len(b), err)
	}
}

// each calls a function with leaves that may be: each stamp, each kind, each size.
func each(call func(x api.Leaf)) {
	for i, stamp := range stamps {
		for _, kind := range kinds {
			for _, size := range sizes {
				call(api.Leaf{Stamp: stamp, Kind: kind, Bytes: drawn(size, uint64(i))})
			}
		}
	}
}

// The chapter's example: a page that begins and ends with the eight bytes of 9.
func TestExample(t *testing.T) {
	x := api.Leaf{Stamp: 9, Kind: 3, Bytes: []byte("abc")}
	b := put(t, x)
	nine := []byte{0, 0, 0, 0, 0, 0, 0, 9}
	if len(b) != 256 || !bytes.HasPrefix(b, nine) || !bytes.HasSuffix(b, nine) {
		t.Errorf("%v", b)
	}
	if !bytes.Equal(b[8:15], []byte{3, 0, 3, 'a', 'b', 'c', 0}) {
		t.Errorf("behind the stamp stands %v", b[8:15])
	}
	if first, last := leaf.Stamps(b); first != 9 || last != 9 {
		t.Errorf("its stamps are %d and %d", first, last)
	}
	wantLeaf(t, b, x)
}

// The document's example 3: a page that is torn between two stamps is told to be torn, whatever its sum.
func TestExampleTorn(t *testing.T) {
	w := of(api.Leaf{Stamp: 9, Kind: api.KindData, Bytes: []byte("abc")})
	w.last = 10
	wantCode(t, w.page(), api.ErrTorn)
	w.turn = 1
	wantCode(t, w.page(), api.ErrTorn)
}

// 5.1: byte by byte, where each part of a page stands.
func TestPutPlaces(t *testing.T) {
	x := api.Leaf{Stamp: 0x0102030405, Kind: api.KindIndex, Bytes: drawn(api.Room, 1)}
	b := put(t, x)
	stamp := []byte{0, 0, 0, 1, 2, 3, 4, 5}
	if len(b) != api.Page {
		t.Fatalf("a page of %d bytes", len(b))
	}
	if !bytes.Equal(b[:8], stamp) || !bytes.Equal(b[248:], stamp) {
		t.Errorf("stamps %v and %v", b[:8], b[248:])
	}
	if b[8] != 5 || b[9] != 0 || b[10] != 233 {
		t.Errorf("kind and size %v", b[8:11])
	}
	if !bytes.Equal(b[11:244], x.Bytes) {
		t.Errorf("bytes %v", b[11:244])
	}
	if binary.LittleEndian.Uint32(b[244:]) != crc32.ChecksumIEEE(b[:244]) {
		t.Errorf("sum %v", b[244:248])
	}
}

// 5.1: the page of each leaf that may be, held against the chapter's words.
func TestPutModel(t *testing.T) {
	each(func(x api.Leaf) {
		if b, want := put(t, x), of(x).page(); !bytes.Equal(b, want) {
			t.Errorf("Put(%v) is %v, want %v", x, b, want)
		}
	})
}

// 5.1: how many bytes there are stands in the page, noughts at their end or not.
func TestPutNoughts(t *testing.T) {
	pages := map[[api.Page]byte]int{}
	for size := range api.Room + 1 {
		x := api.Leaf{Stamp: 7, Kind: api.KindData, Bytes: make([]byte, size)}
		b := put(t, x)
		pages[[api.Page]byte(b)] = size
		wantLeaf(t, b, x)
	}
	if len(pages) != api.Room+1 {
		t.Errorf("%d pages of %d leaves", len(pages), api.Room+1)
	}
}

// 5.1 and 5.4: no bytes, nil or not, are the same.
func TestPutNone(t *testing.T) {
	a := put(t, api.Leaf{Stamp: 4, Kind: api.KindEpoch})
	b := put(t, api.Leaf{Stamp: 4, Kind: api.KindEpoch, Bytes: []byte{}})
	if !bytes.Equal(a, b) {
		t.Errorf("%v is not %v", a, b)
	}
	wantLeaf(t, a, api.Leaf{Stamp: 4, Kind: api.KindEpoch})
}

// 5.2: nothing is wrong with leaves that may be.
func TestCheckNothing(t *testing.T) {
	each(func(x api.Leaf) {
		if err := leaf.Check(x); err != nil {
			t.Errorf("Check(%v): %v", x, err)
		}
	})
}

// 5.2, and Put's error (5.1): each thing that is wrong, with its code, of what, and at what.
func TestRefused(t *testing.T) {
	for _, stamp := range noStamps {
		wantRefused(t, api.Leaf{Stamp: stamp, Kind: api.KindData}, "stamp", stamp, api.ErrRange)
	}
	for _, kind := range noKinds {
		wantRefused(t, api.Leaf{Stamp: 1, Kind: kind}, "kind", kind, api.ErrKind)
	}
	for _, size := range noSizes {
		x := api.Leaf{Stamp: 1, Kind: api.KindData, Bytes: make([]byte, size)}
		wantRefused(t, x, "leaf", size, api.ErrSize)
	}
}

// 5.2, and Put's error (5.1): the stamp comes ahead of the kind, and that ahead of the bytes.
func TestRefusedFirst(t *testing.T) {
	many := make([]byte, api.Room+1)
	for _, stamp := range noStamps {
		for _, kind := range slices.Concat(noKinds, kinds) {
			wantRefused(t, api.Leaf{Stamp: stamp, Kind: kind, Bytes: many}, "stamp", stamp, api.ErrRange)
		}
	}
	for _, kind := range noKinds {
		wantRefused(t, api.Leaf{Stamp: api.MaxNum, Kind: kind, Bytes: many}, "kind", kind, api.ErrKind)
	}
	wantRefused(t, api.Leaf{}, "stamp", 0, api.ErrRange)
}

// ends is numbers of eight bytes, and what they are as stamps.
var ends = []struct {
	n     uint64
	stamp int
}{
	{0, 0},
	{1, 1},
	{9, 9},
	{256, 256},
	{0x0102030405, 0x0102030405},
	{1<<40 - 1, 1<<40 - 1},
	{1 << 40, 1 << 40},
	{1<<40 + 1, 0},
	{1 << 41, 0},
	{1<<56 + 9, 0},
	{1 << 63, 0},
	{1<<63 + 9, 0},
	{math.MaxUint64 - 8, 0},
	{math.MaxUint64, 0},
}

// 5.3: the numbers at both ends, each for itself, whatever else stands in the page.
func TestStamps(t *testing.T) {
	for _, a := range ends {
		for _, b := range ends {
			w := written{first: a.n, last: b.n, kind: 77, size: 9999, bytes: drawn(api.Room, a.n), turn: 3}
			first, last := leaf.Stamps(w.page())
			if first != a.stamp || last != b.stamp {
				t.Errorf("of %x and %x: %d and %d", a.n, b.n, first, last)
			}
		}
	}
}

// notPages is rows of bytes that are not a page's: a page cut, or with bytes ahead or behind.
func notPages(b []byte) [][]byte {
	rows := [][]byte{nil, {}, b[:1], b[:7], b[:8], b[:9], b[:16], b[:244], b[:248], b[:255], b[1:], b[8:]}
	return append(rows, append(slices.Clone(b), 0), append(slices.Clone(b), b...), append([]byte{0}, b...))
}

// 5.3: 0 and 0 of what is not a page.
func TestStampsShort(t *testing.T) {
	b := put(t, api.Leaf{Stamp: 0x0101010101, Kind: api.KindData, Bytes: drawn(api.Room, 1)})
	for _, row := range notPages(b) {
		if first, last := leaf.Stamps(row); first != 0 || last != 0 {
			t.Errorf("of %d bytes: %d and %d", len(row), first, last)
		}
	}
}

// 5.4: ErrShort of what has not as many bytes as a page, fewer or more, also where it is a page as far as it goes.
func TestGetShort(t *testing.T) {
	b := put(t, api.Leaf{Stamp: 9, Kind: api.KindData, Bytes: []byte("abc")})
	for _, row := range notPages(b) {
		wantCode(t, row, api.ErrShort)
	}
	for size := range 600 {
		if size != api.Page {
			wantCode(t, make([]byte, size), api.ErrShort)
			wantCode(t, drawn(size, 2), api.ErrShort)
		}
	}
}

// 5.4: ErrTorn where the ends are not the same, also where one of them, or neither, is a stamp; ErrNone where they are, but no stamp; each ahead of all else that is wrong.
func TestGetEnds(t *testing.T) {
	for _, a := range ends {
		for _, b := range ends {
			good := written{first: a.n, last: b.n, kind: api.KindData, size: 3, bytes: []byte("abc")}
			bad := written{first: a.n, last: b.n, kind: 0, size: 234, bytes: drawn(api.Room, 3), turn: 1}
			switch {
			case a.n != b.n:
				wantCode(t, good.page(), api.ErrTorn)
				wantCode(t, bad.page(), api.ErrTorn)
			case a.stamp == 0:
				wantCode(t, good.page(), api.ErrNone)
				wantCode(t, bad.page(), api.ErrNone)
			default:
				wantLeaf(t, good.page(), api.Leaf{Stamp: a.stamp, Kind: api.KindData, Bytes: []byte("abc")})
				wantCode(t, bad.page(), api.ErrSum)
			}
		}
	}
}

// 5.4: ErrNone of a blank page, and of one that is all one byte.
func TestGetBlank(t *testing.T) {
	wantCode(t, make([]byte, api.Page), api.ErrNone)
	for c := range 256 {
		wantCode(t, bytes.Repeat([]byte{byte(c)}, api.Page), api.ErrNone)
	}
}

// 5.4: whichever bit of a page is turned, that is told: at its ends it is torn, between them the sum does not fit.
func TestGetTurned(t *testing.T) {
	b := put(t, api.Leaf{Stamp: 0x0102030405, Kind: api.KindFoot, Bytes: drawn(100, 4)})
	for at := range b {
		for bit := range 8 {
			row := slices.Clone(b)
			row[at] ^= 1 << bit
			if at < 8 || at >= 248 {
				wantCode(t, row, api.ErrTorn)
			} else {
				wantCode(t, row, api.ErrSum)
			}
		}
	}
}

// 5.4: ErrSum where both ends were turned alike to another stamp: the sum is of the stamp, too.
func TestGetOtherStamp(t *testing.T) {
	b := put(t, api.Leaf{Stamp: 9, Kind: api.KindFoot, Bytes: []byte("abc")})
	b[7], b[255] = 8, 8
	wantCode(t, b, api.ErrSum)
}

// 5.4: ErrSum comes ahead of all that is wrong with what stands in the page.
func TestGetSumFirst(t *testing.T) {
	for _, w := range []written{
		{kind: api.KindData, size: 3, bytes: []byte("abc")},
		{kind: 0, size: 3, bytes: []byte("abc")},
		{kind: api.KindData, size: 234, bytes: drawn(api.Room, 5)},
		{kind: api.KindData, size: 2, bytes: []byte("abc")},
		{kind: 6, size: 65535, bytes: drawn(api.Room, 5)},
	} {
		w.first, w.last, w.turn = 9, 9, 128
		wantCode(t, w.page(), api.ErrSum)
	}
}

// 5.4: ErrForm of each size above Room, ahead of a kind that is none and of what should be noughts.
func TestGetSize(t *testing.T) {
	for size := api.Room + 1; size <= math.MaxUint16; size++ {
		kind := byte(size % 8)
		w := written{first: 9, last: 9, kind: kind, size: uint16(size), bytes: drawn(size%(api.Room+1), 6)}
		wantCode(t, w.page(), api.ErrForm)
	}
}

// 5.4: ErrKind of each kind that is none, ahead of what should be noughts; the size may be any.
func TestGetKind(t *testing.T) {
	for kind := range 256 {
		for _, size := range sizes {
			w := written{first: 9, last: 9, kind: byte(kind), size: uint16(size), bytes: drawn(size, 7)}
			spare := w
			spare.bytes = drawn(api.Room, 7)
			if kind < api.KindBucket || kind > api.KindIndex {
				wantCode(t, w.page(), api.ErrKind)
				wantCode(t, spare.page(), api.ErrKind)
				continue
			}
			wantLeaf(t, w.page(), api.Leaf{Stamp: 9, Kind: kind, Bytes: w.bytes})
			if size < api.Room {
				wantCode(t, spare.page(), api.ErrForm)
			}
		}
	}
}

// 5.4: Check's error stands in that of Get: of kind, at it.
func TestGetWrapped(t *testing.T) {
	w := written{first: 9, last: 9, kind: 6, size: 3, bytes: []byte("abc")}
	_, err := leaf.Get(w.page())
	links := trouble.Chain(err)
	want := api.Step{Op: "kind", At: 6, Code: api.ErrKind}
	if len(links) == 0 || links[len(links)-1] != want {
		t.Errorf("got %v, want %v at its end", links, want)
	}
}

// 5.4: ErrForm wherever a byte stands where a nought should be.
func TestGetNoughts(t *testing.T) {
	for _, size := range sizes {
		for at := size; at < api.Room; at++ {
			row := make([]byte, api.Room)
			copy(row, drawn(size, 8))
			row[at] = byte(1 << (at % 8))
			w := written{first: 9, last: 9, kind: api.KindData, size: uint16(size), bytes: row}
			wantCode(t, w.page(), api.ErrForm)
		}
	}
}

// 5.5: the same are those whose stamp, kind and bytes are, also those that no page may hold.
func TestSame(t *testing.T) {
	leaves := []api.Leaf{
		{},
		{Stamp: 9, Kind: 3, Bytes: []byte("abc")},
		{Stamp: 3, Kind: 9, Bytes: []byte("abc")},
		{Stamp: 10, Kind: 3, Bytes: []byte("abc")},
		{Stamp: 9, Kind: 4, Bytes: []byte("abc")},
		{Stamp: 9, Kind: 3, Bytes: []byte("abd")},
		{Stamp: 9, Kind: 3, Bytes: []byte("bbc")},
		{Stamp: 9, Kind: 3, Bytes: []byte("ab")},
		{Stamp: 9, Kind: 3, Bytes: []byte("abc\x00")},
		{Stamp: 9, Kind: 3},
		{Stamp: -9, Kind: 3},
		{Stamp: 9, Kind: -3},
		{Stamp: 9, Kind: 259},
		{Stamp: api.MaxNum + 9, Kind: 3},
		{Stamp: math.MinInt, Kind: math.MaxInt, Bytes: make([]byte, 1000)},
	}
	for i, a := range leaves {
		for j, b := range leaves {
			b.Bytes = slices.Clone(b.Bytes)
			if got := leaf.Same(a, b); got != (i == j) {
				t.Errorf("Same(%v, %v) is %v", a, b, got)
			}
		}
	}
	none := api.Leaf{Stamp: 9, Kind: 3, Bytes: []byte{}}
	if !leaf.Same(none, leaves[9]) || !leaf.Same(leaves[9], none) {
		t.Error("no bytes, nil and not, are not the same")
	}
}

// 5.6: there and back a leaf is the same.
func TestThereAndBack(t *testing.T) {
	each(func(x api.Leaf) {
		b := put(t, x)
		y, err := leaf.Get(b)
		if err != nil || !leaf.Same(x, y) || !equal(x, y) {
			t.Errorf("%v comes back as %v, %v", x, y, err)
		}
		if first, last := leaf.Stamps(b); first != x.Stamp || last != x.Stamp {
			t.Errorf("%v has the stamps %d and %d", x, first, last)
		}
	})
}

// 5.6 and P10: in one way alone: a page that can be read is the page of what it holds, whatever was turned in it, the sum made to fit.
func TestOneWay(t *testing.T) {
	base := of(api.Leaf{Stamp: 9, Kind: api.KindFoot, Bytes: []byte("abc")}).page()
	read := 0
	for at := range 244 {
		for bit := range 8 {
			row := slices.Clone(base[:244])
			row[at] ^= 1 << bit
			row = binary.LittleEndian.AppendUint32(row, crc32.ChecksumIEEE(row))
			row = append(row, row[:8]...)
			x, err := leaf.Get(row)
			if err != nil {
				continue
			}
			read++
			if b := put(t, x); !bytes.Equal(b, row) {
				t.Errorf("turned at %d, bit %d: read as %v, which is %v", at, bit, x, b)
			}
		}
	}
	// The stamp's 40 lower bits; the kinds 2 and 1; abc with 4 to 128 noughts behind it; each bit of abc.
	if want := 40 + 2 + 6 + 24; read != want {
		t.Errorf("%d could be read, want %d", read, want)
	}
}

// tornPairs is leaves of unlike stamps, which are unlike in the first of their bytes, the last, or more.
var tornPairs = [][2]api.Leaf{
	{{Stamp: 9, Kind: 3, Bytes: []byte("abc")}, {Stamp: 10, Kind: 3}},
	{{Stamp: 1, Kind: 1, Bytes: drawn(api.Room, 9)}, {Stamp: 2, Kind: 1, Bytes: drawn(api.Room, 10)}},
	{{Stamp: 255, Kind: 2}, {Stamp: 256, Kind: 2}},
	{{Stamp: 9, Kind: 5, Bytes: []byte("same")}, {Stamp: 9 + 1<<32, Kind: 5, Bytes: []byte("same")}},
	{{Stamp: api.MaxNum, Kind: 4, Bytes: drawn(20, 1)}, {Stamp: api.MaxNum - 1, Kind: 1, Bytes: drawn(200, 1)}},
	{{Stamp: 0x0102030405, Kind: 4, Bytes: drawn(20, 1)}, {Stamp: 0x0504030201, Kind: 4, Bytes: drawn(20, 1)}},
}

// wantTorn holds a page that was torn between two others against what it should be told to be: either of them whole, or torn.
func wantTorn(t *testing.T, row, a, b []byte, x, y api.Leaf) {
	t.Helper()
	switch {
	case bytes.Equal(row, a):
		wantLeaf(t, row, x)
	case bytes.Equal(row, b):
		wantLeaf(t, row, y)
	default:
		wantCode(t, row, api.ErrTorn)
	}
}

// 5.6: wherever a page is torn between two leaves of unlike stamps, that is told, also where the sum fits.
func TestTorn(t *testing.T) {
	for _, pair := range tornPairs {
		x, y := pair[0], pair[1]
		a, b := put(t, x), put(t, y)
		for n := range api.Page + 1 {
			wantTorn(t, slices.Concat(a[:n], b[n:]), a, b, x, y)
			wantTorn(t, slices.Concat(b[:n], a[n:]), b, a, y, x)
			if n > 8 && n <= 244 {
				row := slices.Concat(a[:n], b[n:])
				binary.LittleEndian.PutUint32(row[244:], crc32.ChecksumIEEE(row[:244]))
				wantCode(t, row, api.ErrTorn)
			}
		}
	}
}

// 5.6 and P3: on a device whose power goes while a leaf is written over another, the page holds either one, or is torn.
func TestTornOnDevice(t *testing.T) {
	x, y := tornPairs[1][0], tornPairs[1][1]
	a, b := put(t, x), put(t, y)
	for n := range api.Page + 1 {
		f, err := flash.New(1)
		if err != nil {
			t.Fatal(err)
		}
		if err := errors.Join(f.Write(0, b), f.Flush(), f.Write(0, a)); err != nil {
			t.Fatal(err)
		}
		f.Crash([]int{n})
		row, err := f.Read(0)
		if err != nil {
			t.Fatal(err)
		}
		wantTorn(t, row, a, b, x, y)
	}
}

// 5.6: of a leaf that was written over a blank page a part is torn, or, ahead of its stamp's first byte that is not a nought, blank still.
func TestTornOverBlank(t *testing.T) {
	x := api.Leaf{Stamp: 0x0102030405, Kind: api.KindData, Bytes: drawn(50, 11)}
	a := put(t, x)
	for n := range api.Page {
		row := make([]byte, api.Page)
		copy(row, a[:n])
		if n <= 3 {
			wantCode(t, row, api.ErrNone)
		} else {
			wantCode(t, row, api.ErrTorn)
		}
	}
}

// within is a row of bytes in the midst of others, which no call may read, write or hand out.
func within(b []byte) (row, whole []byte) {
	whole = bytes.Repeat([]byte{0xee}, len(b)+600)
	copy(whole[8:], b)
	return whole[8 : 8+len(b)], whole
}

// R3: what is handed in is not changed, nor is what lies behind it in its memory; a page is the same whatever lies there.
func TestHandedInStays(t *testing.T) {
	for _, size := range sizes {
		text := drawn(size, 12)
		row, whole := within(text)
		was := slices.Clone(whole)
		x := api.Leaf{Stamp: 9, Kind: api.KindData, Bytes: row}
		page := put(t, x)
		if err := leaf.Check(x); err != nil || !leaf.Same(x, x) {
			t.Errorf("Check of %v: %v, or it is not the same as itself", x, err)
		}
		if !bytes.Equal(whole, was) {
			t.Errorf("%d bytes, or what lies around them, were changed", size)
		}
		if want := of(api.Leaf{Stamp: 9, Kind: api.KindData, Bytes: text}).page(); !bytes.Equal(page, want) {
			t.Errorf("%v, want %v", page, want)
		}
		row, whole = within(page)
		was = slices.Clone(whole)
		wantLeaf(t, row, api.Leaf{Stamp: 9, Kind: api.KindData, Bytes: text})
		if first, last := leaf.Stamps(row); first != 9 || last != 9 {
			t.Errorf("stamps %d and %d", first, last)
		}
		if !bytes.Equal(whole, was) {
			t.Errorf("a page with %d bytes, or what lies around it, was changed", size)
		}
	}
}

// wipe writes over a row, and over what lies behind it in its memory.
func wipe(b []byte) {
	b = b[:cap(b)]
	for i := range b {
		b[i] = 0xdd
	}
}

// R3: what was answered stays as it was, whatever is written into what was handed in, or was answered otherwise.
func TestAnsweredStays(t *testing.T) {
	for _, size := range sizes {
		text := drawn(size, 13)
		x := api.Leaf{Stamp: 9, Kind: api.KindData, Bytes: slices.Clone(text)}
		want := of(api.Leaf{Stamp: 9, Kind: api.KindData, Bytes: text})
		a, b := put(t, x), put(t, x)
		wipe(x.Bytes)
		if !bytes.Equal(a, want.page()) {
			t.Errorf("a page changed with the %d bytes that were handed in", size)
		}
		y, errY := leaf.Get(a)
		z, errZ := leaf.Get(a)
		if errY != nil || errZ != nil {
			t.Fatal(errY, errZ)
		}
		wipe(a)
		wipe(z.Bytes)
		if !bytes.Equal(y.Bytes, text) {
			t.Errorf("a leaf of %d bytes changed with its page, or with another leaf", size)
		}
		if !bytes.Equal(b, want.page()) {
			t.Errorf("a page changed with another one, of %d bytes", size)
		}
		wantLeaf(t, b, api.Leaf{Stamp: 9, Kind: api.KindData, Bytes: text})
	}
}

// R3: a leaf's bytes have nothing of its page behind them.
func TestNothingBehind(t *testing.T) {
	b := put(t, api.Leaf{Stamp: 9, Kind: api.KindData, Bytes: []byte("abc")})
	x, err := leaf.Get(b)
	if err != nil {
		t.Fatal(err)
	}
	_ = append(x.Bytes, bytes.Repeat([]byte{0xdd}, 300)...)
	wipe(x.Bytes[:0])
	wantLeaf(t, b, api.Leaf{Stamp: 9, Kind: api.KindData, Bytes: []byte("abc")})
}

// P10: what is answered hangs on the arguments alone, whatever was asked ahead.
func TestAgain(t *testing.T) {
	x := api.Leaf{Stamp: 9, Kind: api.KindData, Bytes: []byte("abc")}
	want := put(t, x)
	each(func(y api.Leaf) {
		put(t, y)
		if _, err := leaf.Get(make([]byte, api.Page)); err == nil {
			t.Error("a blank page holds something")
		}
		if b := put(t, x); !bytes.Equal(b, want) {
			t.Fatalf("behind %v: %v, want %v", y, b, want)
		}
	})
}

// P0: no bytes whatever have a call panic; what can be read is the page of what it holds.
func FuzzGet(f *testing.F) {
	x := api.Leaf{Stamp: 9, Kind: api.KindFoot, Bytes: []byte("abc")}
	f.Add([]byte{}, false)
	f.Add(make([]byte, api.Page), true)
	f.Add(of(x).page(), false)
	f.Add(of(x).page(), true)
	f.Fuzz(func(t *testing.T, b []byte, mend bool) {
		if mend && len(b) == api.Page {
			b = slices.Clone(b)
			binary.LittleEndian.PutUint32(b[244:], crc32.ChecksumIEEE(b[:244]))
			copy(b[248:], b[:8])
		}
		first, last := leaf.Stamps(b)
		x, err := leaf.Get(b)
		if err != nil {
			if trouble.Of(err) == api.OK || !equal(x, api.Leaf{}) {
				t.Errorf("%v beside %v", x, err)
			}
			return
		}
		if first != x.Stamp || last != x.Stamp {
			t.Errorf("%v has the stamps %d and %d", x, first, last)
		}
		if row := put(t, x); !bytes.Equal(row, b) {
			t.Errorf("%v is %v, read from %v", x, row, b)
		}
	})
}
