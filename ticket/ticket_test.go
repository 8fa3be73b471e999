package ticket_test

import (
	"bytes"
	"encoding/binary"
	"errors"
	"hash/crc32"
	"math"
	"math/rand/v2"
	"slices"
	"testing"

	"buttery/api"
	"buttery/flash"
	"buttery/ticket"
	"buttery/trouble"
)

// The calls with the signatures that the chapter lists.
var (
	_ func(*flash.Flash) (*ticket.Ticket, error)       = ticket.Open
	_ func(*ticket.Ticket) int                         = (*ticket.Ticket).Next
	_ func(*ticket.Ticket, int, int, []byte) error     = (*ticket.Ticket).Put
	_ func(*ticket.Ticket, int, int) (api.Leaf, error) = (*ticket.Ticket).Get
	_ func(*ticket.Ticket, int, int, []byte) error     = (*ticket.Ticket).Firm
)

// calls is all calls of a device.
type calls interface {
	Pages() int
	Write(int, []byte) error
	Trim(int) error
	Read(int) ([]byte, error)
	Flush() error
	Fuse(int)
	Down() bool
	Crash([]int)
	Loose() int
	Done() int
	Cells() []api.Cell
}

// A ticket has them, too, since the device is a part of it.
var (
	_ calls = (*ticket.Ticket)(nil)
	_       = ticket.Ticket{Flash: (*flash.Flash)(nil)}
)

// pages is how many pages the tests' devices have, where that does not matter.
const pages = 4

// outside is pages that such a device has not.
var outside = []int{-1, -2, -pages, pages, pages + 1, api.MaxPages, math.MaxInt, math.MinInt}

// kinds is all kinds; noKinds is numbers that are none, some of which would be one, if only a byte were asked for.
var (
	kinds   = []int{api.KindBucket, api.KindData, api.KindFoot, api.KindEpoch, api.KindIndex}
	noKinds = []int{0, -1, -3, 6, 7, 255, 256, 257, 259, math.MaxInt, math.MinInt}
)

// sizes is how many bytes a leaf may have; noSizes how many are too many.
var (
	sizes   = []int{0, 1, 2, 100, 232, 233}
	noSizes = []int{234, 235, 255, 256, 257, 489, api.MaxValue, 65536}
)

// stamps is stamps that may be, at both sides of a byte's ends.
var stamps = []int{1, 2, 3, 9, 255, 256, 257, 65535, 65536, 1 << 32, 0x0102030405, api.MaxNum - 1, api.MaxNum}

// noStamps is numbers that a page may have at its ends, but that are no stamps.
var noStamps = []uint64{0, api.MaxNum + 1, api.MaxNum + 7, 2 * api.MaxNum, 1 << 62, 1<<63 - 1, 1 << 63, math.MaxUint64}

// some is so many bytes, all alike, and no noughts.
func some(size int) []byte { return bytes.Repeat([]byte{byte(size)%250 + 1}, size) }

// page is a page by the words of chapter 5 alone; its ends may be unlike, and its parts such as may not be.
func page(first, last uint64, kind byte, size int, b []byte) []byte {
	p := binary.BigEndian.AppendUint64(nil, first)
	p = append(p, kind, byte(size>>8), byte(size))
	p = append(p, b...)
	p = append(p, make([]byte, 244-len(p))...)
	p = binary.LittleEndian.AppendUint32(p, crc32.ChecksumIEEE(p))
	return binary.BigEndian.AppendUint64(p, last)
}

// pageOf is the page of a leaf.
func pageOf(x api.Leaf) []byte {
	return page(uint64(x.Stamp), uint64(x.Stamp), byte(x.Kind), len(x.Bytes), x.Bytes)
}

// ends is a page with these numbers at its ends.
func ends(first, last uint64) []byte { return page(first, last, api.KindData, 2, []byte("ab")) }

// leafOf is a leaf.
func leafOf(stamp, kind int, b []byte) api.Leaf {
	return api.Leaf{Stamp: stamp, Kind: kind, Bytes: b}
}

// device is a new device of so many pages.
func device(t *testing.T, n int) *flash.Flash {
	t.Helper()
	f, err := flash.New(n)
	done(t, err)
	return f
}

// open is a device with stamps.
func open(t *testing.T, f *flash.Flash) *ticket.Ticket {
	t.Helper()
	k, err := ticket.Open(f)
	if err != nil || k == nil {
		t.Fatalf("Open: %v, %v", k, err)
	}
	return k
}

// blank is a new device with stamps, of which nothing is written.
func blank(t *testing.T) *ticket.Ticket {
	t.Helper()
	return open(t, device(t, pages))
}

// done fails if a call that should be done was refused.
func done(t *testing.T, err error) {
	t.Helper()
	if err != nil {
		t.Fatalf("refused: %v", err)
	}
}

// lay writes a page, whatever stands in it, and flushes.
func lay(t *testing.T, f calls, at int, b []byte) {
	t.Helper()
	done(t, f.Write(at, b))
	done(t, f.Flush())
}

// cut has the power go at the next change.
func cut(t *testing.T, f calls) {
	t.Helper()
	f.Fuse(0)
	if err := f.Flush(); trouble.Of(err) != api.ErrDown || !f.Down() {
		t.Fatalf("the power has not gone: %v", err)
	}
}

// wantFault holds an error against the links that it should have.
func wantFault(t *testing.T, err error, want ...api.Step) {
	t.Helper()
	if got := trouble.Chain(err); !slices.Equal(got, want) {
		t.Errorf("got %v, want %v", got, want)
	}
}

// wantNext holds the next stamp against what it should be.
func wantNext(t *testing.T, k *ticket.Ticket, want int) {
	t.Helper()
	if k.Next() != want {
		t.Errorf("Next is %d, want %d", k.Next(), want)
	}
}

// equal tells whether two leaves are the same, without asking the program.
func equal(a, b api.Leaf) bool {
	return a.Stamp == b.Stamp && a.Kind == b.Kind && bytes.Equal(a.Bytes, b.Bytes)
}

// wantLeaf holds what is got from a page against the leaf that it should be.
func wantLeaf(t *testing.T, k *ticket.Ticket, at int, want api.Leaf) {
	t.Helper()
	x, err := k.Get(at, want.Kind)
	if err != nil || !equal(x, want) {
		t.Errorf("Get(%d, %d) is %v, %v, want %v", at, want.Kind, x, err, want)
	}
}

// wantNoLeaf holds the error of a page against what it should be; beside it there is no leaf.
func wantNoLeaf(t *testing.T, k *ticket.Ticket, at, kind int, code api.Code, under ...string) {
	t.Helper()
	x, err := k.Get(at, kind)
	if !equal(x, api.Leaf{}) {
		t.Errorf("Get(%d, %d) is %v beside %v", at, kind, x, err)
	}
	links := trouble.Chain(err)
	if len(links) != 1+len(under) || links[0].Op != "get" || links[0].At != at || trouble.Of(err) != code {
		t.Errorf("Get(%d, %d) is %v, want code %d", at, kind, err, code)
		return
	}
	for i, op := range under {
		if links[i+1].Op != op {
			t.Errorf("Get(%d, %d) is %v, want %s under it", at, kind, err, op)
		}
	}
}

// state is all that a device tells of itself.
type state struct {
	next, loose, done int
	down              bool
	cells             []api.Cell
}

// stateOf is what a device tells now.
func stateOf(k *ticket.Ticket) state {
	return state{next: k.Next(), loose: k.Loose(), done: k.Done(), down: k.Down(), cells: k.Cells()}
}

// wantState holds what a device tells against what it told, or should tell.
func wantState(t *testing.T, k *ticket.Ticket, want state) {
	t.Helper()
	got := stateOf(k)
	same := slices.EqualFunc(got.cells, want.cells, func(a, b api.Cell) bool {
		return a.At == b.At && bytes.Equal(a.Bytes, b.Bytes)
	})
	got.cells, want.cells = nil, nil
	if !same || got.next != want.next || got.loose != want.loose || got.done != want.done || got.down != want.down {
		t.Errorf("the device is %v, want %v (its pages the same: %v)", got, want, same)
	}
}

// The chapter's example: on a blank device the first leaf has the stamp 1.
func TestExample(t *testing.T) {
	k := blank(t)
	wantNext(t, k, 1)
	done(t, k.Put(3, api.KindFoot, []byte("abc")))
	wantLeaf(t, k, 3, leafOf(1, api.KindFoot, []byte("abc")))
	wantNext(t, k, 2)
}

// 10.1: of no device there is no ticket.
func TestOpenNil(t *testing.T) {
	k, err := ticket.Open(nil)
	if k != nil {
		t.Errorf("Open(nil) is %v", k)
	}
	if links := trouble.Chain(err); len(links) != 1 || links[0].Op != "open" || links[0].Code != api.ErrArg {
		t.Errorf("Open(nil): %v", err)
	}
}

// 10.1: nor of one whose power has gone, till it comes again.
func TestOpenDown(t *testing.T) {
	f := device(t, pages)
	lay(t, f, 2, ends(6, 6))
	cut(t, f)
	for range 2 {
		k, err := ticket.Open(f)
		if k != nil {
			t.Errorf("Open is %v while the power has gone", k)
		}
		if links := trouble.Chain(err); len(links) != 1 || links[0].Op != "open" || links[0].Code != api.ErrDown {
			t.Errorf("Open: %v", err)
		}
		if !errors.Is(err, trouble.New("any", 0, api.ErrDown)) {
			t.Errorf("%v is not of its code", err)
		}
	}
	f.Crash(nil)
	wantNext(t, open(t, f), 7)
}

// 10.1: on a blank device the next stamp is 1, of however many pages; opening changes nothing.
func TestOpenBlank(t *testing.T) {
	for _, n := range []int{1, 2, 3, 255, 256, api.MaxPages} {
		f := device(t, n)
		f.Fuse(0)
		k := open(t, f)
		if k.Flash != f || k.Pages() != n {
			t.Errorf("the device is another one: of %d pages, want %d", k.Pages(), n)
		}
		wantState(t, k, state{next: 1})
		if err := f.Flush(); trouble.Of(err) != api.ErrDown {
			t.Error("opening was a change at which the power goes")
		}
	}
}

// 10.1: each call of the device is one of what was opened, and means that device.
func TestPromoted(t *testing.T) {
	f := device(t, pages)
	k := open(t, f)
	for _, x := range [][2]calls{{k, f}, {f, k}} {
		a, b := x[0], x[1]
		done(t, a.Write(1, ends(5, 5)))
		if p, err := b.Read(1); err != nil || !bytes.Equal(p, ends(5, 5)) || b.Loose() != 1 {
			t.Errorf("what is written to one is read from the other: %v", err)
		}
		done(t, a.Flush())
		if len(b.Cells()) != 1 || b.Loose() != 0 || b.Done() != a.Done() || b.Pages() != pages {
			t.Error("what one does the other one tells")
		}
		a.Fuse(0)
		wantFault(t, b.Trim(1), api.Step{Op: "trim", At: 1, Code: api.ErrDown})
		if !a.Down() || !b.Down() {
			t.Error("the power has gone of one alone")
		}
		a.Crash([]int{api.Page})
		if a.Down() || b.Down() || len(b.Cells()) != 0 {
			t.Error("the power has come again of one alone")
		}
	}
	// What is written by the device's own call bears the stamp that it bears.
	wantNext(t, k, 1)
}

// 10.1: the greatest stamp counts, on whichever page it is.
func TestOpenGreatest(t *testing.T) {
	for _, stamp := range stamps {
		for at := range pages {
			f := device(t, pages)
			for other := range pages {
				lay(t, f, other, ends(1, 1))
			}
			lay(t, f, at, ends(uint64(stamp), uint64(stamp)))
			wantNext(t, open(t, f), stamp+1)
		}
	}
	f := device(t, api.MaxPages)
	for at := range api.MaxPages {
		done(t, f.Write(at, ends(uint64(at+1), 1)))
	}
	wantNext(t, open(t, f), api.MaxPages+1)
	for at := range api.MaxPages {
		done(t, f.Write(at, ends(1, uint64(api.MaxPages-at))))
	}
	wantNext(t, open(t, f), api.MaxPages+1)
}

// 10.1: it counts at either end of a page; a number that is no stamp does not, also beside one that is.
func TestOpenEnds(t *testing.T) {
	for _, stamp := range stamps {
		for _, lesser := range append(noStamps, 1, uint64(stamp)-1, uint64(stamp)) {
			for _, p := range [][]byte{ends(uint64(stamp), lesser), ends(lesser, uint64(stamp))} {
				f := device(t, pages)
				lay(t, f, 1, p)
				wantNext(t, open(t, f), stamp+1)
			}
		}
	}
	for _, first := range noStamps {
		for _, last := range noStamps {
			f := device(t, pages)
			lay(t, f, 0, ends(first, last))
			wantNext(t, open(t, f), 1)
			lay(t, f, 2, ends(40, first))
			lay(t, f, 3, ends(last, 50))
			wantNext(t, open(t, f), 51)
		}
	}
}

// 10.1: a stamp counts on a page that can't be read, too, whatever is wrong with it.
func TestOpenSpoilt(t *testing.T) {
	sum := ends(77, 77)
	sum[100]++
	kind := page(77, 77, 99, 2, []byte("ab"))
	size := page(77, 77, api.KindData, 300, nil)
	tail := page(77, 77, api.KindData, 1, []byte("ab"))
	bare := slices.Concat(ends(77, 77)[:8], make([]byte, api.Page-8))
	for i, p := range [][]byte{sum, kind, size, tail, bare} {
		f := device(t, pages)
		lay(t, f, 1, p)
		k := open(t, f)
		wantNext(t, k, 78)
		if _, err := k.Get(1, api.KindData); err == nil {
			t.Errorf("page %d can be read", i)
		}
	}
}

// 10.1: pages are as they would be read: what waits counts, what it stands over does not.
func TestOpenWaits(t *testing.T) {
	f := device(t, pages)
	lay(t, f, 0, ends(3, 3))
	lay(t, f, 1, ends(9, 9))
	done(t, f.Write(2, ends(20, 20)))
	wantNext(t, open(t, f), 21)
	done(t, f.Write(2, ends(5, 6)))
	wantNext(t, open(t, f), 10)
	done(t, f.Trim(1))
	wantNext(t, open(t, f), 7)
	f.Crash(nil)
	wantNext(t, open(t, f), 10)
}

// 10.2: what is put is the leaf's page, with the next stamp, and waits; nothing else is touched.
func TestPut(t *testing.T) {
	for _, kind := range kinds {
		for _, size := range sizes {
			k := blank(t)
			var cells []api.Cell
			for at := range pages {
				done(t, k.Put(at, kind, some(size)))
				cells = append(cells, api.Cell{At: at, Bytes: pageOf(leafOf(at+1, kind, some(size)))})
				wantState(t, k, state{next: at + 2, loose: at + 1, done: at + 1, cells: cells})
			}
			done(t, k.Put(2, kind, nil))
			cells[2].Bytes = pageOf(leafOf(pages+1, kind, nil))
			wantState(t, k, state{next: pages + 2, loose: pages + 1, done: pages + 1, cells: cells})
		}
	}
}

// 10.2: the stamps rise by one, from each that there may be on.
func TestPutStamps(t *testing.T) {
	for _, stamp := range stamps[:len(stamps)-2] {
		f := device(t, pages)
		lay(t, f, 3, ends(uint64(stamp), uint64(stamp)))
		k := open(t, f)
		for i := range 3 {
			done(t, k.Put(i%2, api.KindIndex, some(i)))
			wantLeaf(t, k, i%2, leafOf(stamp+1+i, api.KindIndex, some(i)))
			wantNext(t, k, stamp+2+i)
		}
	}
}

// 10.2: the last stamp is MaxNum; behind it nothing can be put, also not once the device is opened anew.
func TestPutLast(t *testing.T) {
	f := device(t, pages)
	lay(t, f, 0, ends(api.MaxNum-1, 4))
	k := open(t, f)
	wantNext(t, k, api.MaxNum)
	done(t, k.Put(1, api.KindData, []byte("z")))
	wantLeaf(t, k, 1, leafOf(api.MaxNum, api.KindData, []byte("z")))
	for range 2 {
		was := stateOf(k)
		wantNext(t, k, api.MaxNum+1)
		want := []api.Step{{Op: "put", At: 2}, {Op: "stamp", At: api.MaxNum + 1, Code: api.ErrRange}}
		wantFault(t, k.Put(2, api.KindData, nil), want...)
		wantFault(t, k.Firm(2, api.KindData, nil), want...)
		wantState(t, k, was)
		k = open(t, f)
	}
}

// putRefused is what Put, and Firm, should answer for arguments that may not be: leaf.Put's error is ahead of Write's, and there the stamp ahead of the kind, that ahead of the size.
func putRefused(t *testing.T, k *ticket.Ticket, at, kind int, b []byte, under api.Step) {
	t.Helper()
	was := stateOf(k)
	wantFault(t, k.Put(at, kind, b), api.Step{Op: "put", At: at}, under)
	wantState(t, k, was)
	wantFault(t, k.Firm(at, kind, b), api.Step{Op: "put", At: at}, under)
	wantState(t, k, was)
}

// 10.2 and 10.4: a kind that may not be, bytes that have no room, a page that there is not, no power: nothing is changed, and no stamp given away.
func TestPutRefused(t *testing.T) {
	k := blank(t)
	done(t, k.Firm(1, api.KindData, []byte("ab")))
	done(t, k.Put(2, api.KindFoot, []byte("cd")))
	for _, gone := range []bool{false, true} {
		if gone {
			cut(t, k)
		}
		for _, at := range append(outside, 1) {
			for _, kind := range noKinds {
				for _, size := range append(noSizes, sizes...) {
					putRefused(t, k, at, kind, some(size), api.Step{Op: "kind", At: kind, Code: api.ErrKind})
				}
			}
			for _, size := range noSizes {
				putRefused(t, k, at, api.KindIndex, some(size), api.Step{Op: "leaf", At: size, Code: api.ErrSize})
			}
			switch {
			case gone:
				putRefused(t, k, at, api.KindIndex, some(233), api.Step{Op: "write", At: at, Code: api.ErrDown})
			case at != 1:
				putRefused(t, k, at, api.KindIndex, some(233), api.Step{Op: "write", At: at, Code: api.ErrRange})
			}
		}
	}
	k.Crash([]int{api.Page})
	wantLeaf(t, k, 1, leafOf(1, api.KindData, []byte("ab")))
	wantLeaf(t, k, 2, leafOf(2, api.KindFoot, []byte("cd")))
	done(t, k.Put(0, api.KindFoot, nil))
	wantLeaf(t, k, 0, leafOf(3, api.KindFoot, nil))
}

// 10.2: of a stamp, a kind and bytes none of which may be, the stamp is told.
func TestPutCodeFirst(t *testing.T) {
	f := device(t, pages)
	lay(t, f, 0, ends(api.MaxNum, api.MaxNum))
	k := open(t, f)
	stamp := api.Step{Op: "stamp", At: api.MaxNum + 1, Code: api.ErrRange}
	putRefused(t, k, 1, 0, some(234), stamp)
	putRefused(t, k, pages, api.KindData, nil, stamp)
	cut(t, k)
	putRefused(t, k, -1, api.KindData, some(234), stamp)
}

// 10.2: a put at which the power goes waits, but is an error, and gives no stamp away; what a crash leaves of it counts once the device is opened anew.
func TestPutFuse(t *testing.T) {
	for keep, next := range map[int]int{-1: 2, 0: 2, 7: 2, 8: 3, 100: 3, 248: 3, 255: 3, 256: 3} {
		k := blank(t)
		done(t, k.Firm(0, api.KindData, []byte("ab")))
		k.Fuse(0)
		want := []api.Step{{Op: "put", At: 1}, {Op: "write", At: 1, Code: api.ErrDown}}
		wantFault(t, k.Put(1, api.KindData, []byte("cd")), want...)
		if !k.Down() || k.Loose() != 1 || k.Done() != 3 {
			t.Errorf("Down %v, Loose %d, Done %d", k.Down(), k.Loose(), k.Done())
		}
		wantNext(t, k, 2)
		wantFault(t, k.Put(1, api.KindData, []byte("cd")), want...)
		wantNext(t, k, 2)
		k.Crash([]int{keep})
		wantNext(t, k, 2)
		wantNext(t, open(t, k.Flash), next)
	}
}

// 10.3: what was put is got, there and back, safe or waiting, also once the device is opened anew; getting changes nothing.
func TestGet(t *testing.T) {
	for _, kind := range kinds {
		for _, size := range sizes {
			k := blank(t)
			done(t, k.Put(1, kind, some(size)))
			done(t, k.Firm(3, kind, some(size)))
			done(t, k.Put(0, kind, some(size)))
			k.Fuse(0)
			for _, k := range []*ticket.Ticket{k, open(t, k.Flash)} {
				was := stateOf(k)
				for stamp, at := range []int{1, 3, 0} {
					wantLeaf(t, k, at, leafOf(stamp+1, kind, some(size)))
				}
				wantState(t, k, was)
			}
		}
	}
}

// 10.3: a page of another kind, also of none that may be asked for.
func TestGetKind(t *testing.T) {
	for _, has := range kinds {
		k := blank(t)
		done(t, k.Put(2, has, []byte("ab")))
		for _, asked := range append(noKinds, kinds...) {
			if asked == has {
				wantLeaf(t, k, 2, leafOf(1, has, []byte("ab")))
				continue
			}
			wantNoLeaf(t, k, 2, asked, api.ErrKind)
		}
	}
}

// 10.3: a page that there is not, one that was never written, or was trimmed, is not got, whichever kind is asked for.
func TestGetNothing(t *testing.T) {
	k := blank(t)
	done(t, k.Put(1, api.KindData, []byte("ab")))
	done(t, k.Trim(1))
	for _, kind := range append(noKinds, kinds...) {
		for _, at := range outside {
			wantNoLeaf(t, k, at, kind, api.ErrRange, "read")
		}
		for at := range pages {
			wantNoLeaf(t, k, at, kind, api.ErrNone, "page")
		}
	}
}

// 10.3: a page that is torn, or spoilt, is told to be so, ahead of its kind.
func TestGetSpoilt(t *testing.T) {
	sum := ends(5, 5)
	sum[20]++
	for code, p := range map[api.Code][]byte{
		api.ErrTorn: ends(5, 6),
		api.ErrNone: ends(api.MaxNum+1, api.MaxNum+1),
		api.ErrSum:  sum,
		api.ErrForm: page(5, 5, api.KindData, 1, []byte("ab")),
	} {
		k := blank(t)
		done(t, k.Write(2, p))
		for _, kind := range append(noKinds, kinds...) {
			wantNoLeaf(t, k, 2, kind, code, "page")
		}
	}
	k := blank(t)
	done(t, k.Write(2, page(5, 5, 6, 2, []byte("ab"))))
	for _, kind := range append(noKinds, kinds...) {
		if x, err := k.Get(2, kind); !equal(x, api.Leaf{}) || trouble.Of(err) != api.ErrKind || trouble.Chain(err)[0].Op != "get" {
			t.Errorf("a page of no kind, asked for as %d: %v, %v", kind, x, err)
		}
	}
}

// 10.3: once the power has gone nothing is got, whichever page is asked for, till it comes again.
func TestGetDown(t *testing.T) {
	k := blank(t)
	done(t, k.Firm(1, api.KindData, []byte("ab")))
	cut(t, k)
	for _, at := range append(outside, 0, 1, 2, 3) {
		wantNoLeaf(t, k, at, api.KindData, api.ErrDown, "read")
		wantNoLeaf(t, k, at, 0, api.ErrDown, "read")
	}
	k.Crash(nil)
	wantLeaf(t, k, 1, leafOf(1, api.KindData, []byte("ab")))
}

// 10.4: what is firm stays, whatever comes; so does all that waited beside it.
func TestFirm(t *testing.T) {
	for _, kind := range kinds {
		for _, size := range sizes {
			k := blank(t)
			done(t, k.Put(0, api.KindFoot, []byte("x")))
			done(t, k.Firm(3, kind, some(size)))
			cells := []api.Cell{
				{At: 0, Bytes: pageOf(leafOf(1, api.KindFoot, []byte("x")))},
				{At: 3, Bytes: pageOf(leafOf(2, kind, some(size)))},
			}
			wantState(t, k, state{next: 3, done: 3, cells: cells})
			k.Crash(nil)
			wantState(t, k, state{next: 3, done: 3, cells: cells})
		}
	}
}

// 10.4: where the put fails nothing is flushed.
func TestFirmPutFails(t *testing.T) {
	k := blank(t)
	done(t, k.Put(0, api.KindFoot, []byte("x")))
	wantFault(t, k.Firm(pages, api.KindData, nil), api.Step{Op: "put", At: pages}, api.Step{Op: "write", At: pages, Code: api.ErrRange})
	if k.Loose() != 1 {
		t.Error("a firm that was refused has flushed")
	}
	k.Fuse(0)
	wantFault(t, k.Firm(1, api.KindData, nil), api.Step{Op: "put", At: 1}, api.Step{Op: "write", At: 1, Code: api.ErrDown})
	wantNext(t, k, 2)
	if k.Loose() != 2 || k.Done() != 2 {
		t.Errorf("Loose %d, Done %d", k.Loose(), k.Done())
	}
	k.Crash(nil)
	if len(k.Cells()) != 0 {
		t.Error("what was not flushed is there")
	}
}

// 10.4: where the power goes at the flush the put is done, and its stamp given; a later flush is refused likewise.
func TestFirmFlushFails(t *testing.T) {
	for keep, code := range map[int]api.Code{0: api.ErrNone, 90: api.ErrTorn, 256: api.OK} {
		k := blank(t)
		done(t, k.Put(0, api.KindFoot, []byte("x")))
		k.Fuse(1)
		wantFault(t, k.Firm(1, api.KindData, []byte("y")), api.Step{Op: "firm", At: 1}, api.Step{Op: "flush", At: 2, Code: api.ErrDown})
		wantNext(t, k, 3)
		if !k.Down() || k.Loose() != 2 || k.Done() != 3 {
			t.Errorf("Down %v, Loose %d, Done %d", k.Down(), k.Loose(), k.Done())
		}
		wantFault(t, k.Flush(), api.Step{Op: "flush", At: 2, Code: api.ErrDown})
		k.Crash([]int{0, keep})
		wantNext(t, k, 3)
		wantNoLeaf(t, k, 0, api.KindFoot, api.ErrNone, "page")
		if x, err := k.Get(1, api.KindData); trouble.Of(err) != code || (err == nil) != equal(x, leafOf(2, api.KindData, []byte("y"))) {
			t.Errorf("of %d bytes: %v, %v", keep, x, err)
		}
	}
}

// greatest is the greatest stamp at either end of a device's pages, read by hand.
func greatest(f calls) int {
	most := 0
	for _, c := range f.Cells() {
		for _, b := range [][]byte{c.Bytes[:8], c.Bytes[api.Page-8:]} {
			if n := binary.BigEndian.Uint64(b); n <= api.MaxNum {
				most = max(most, int(n))
			}
		}
	}
	return most
}

// 10.5: a put that is torn anywhere leaves what was there, what was put, or a page that is told to be torn; and the stamp behind is greater than all that are there.
func TestTornAnywhere(t *testing.T) {
	for _, old := range []int{0, 1, 254, 255, 256, 65534, 65535, 1<<24 - 1, 1<<32 - 1, 0x0102030405} {
		for keep := range api.Page + 1 {
			f := device(t, pages)
			was, put := leafOf(old, api.KindData, []byte("old")), leafOf(old+1, api.KindData, some(233))
			if old > 0 {
				lay(t, f, 2, pageOf(was))
			}
			done(t, open(t, f).Put(2, put.Kind, put.Bytes))
			f.Crash([]int{keep})
			k := open(t, f)
			if k.Next() != greatest(f)+1 || k.Next() <= old {
				t.Fatalf("of stamp %d, %d bytes: the next one is %d", old, keep, k.Next())
			}
			x, err := k.Get(2, api.KindData)
			code := trouble.Of(err)
			fits := code == api.ErrTorn || code == api.ErrNone && old == 0
			if code == api.OK {
				fits = equal(x, was) && keep < api.Page || equal(x, put)
			}
			if !fits || keep == 0 && equal(x, put) || keep == api.Page && !equal(x, put) {
				t.Fatalf("of stamp %d, %d bytes: %v, %v", old, keep, x, err)
			}
			done(t, k.Put(2, api.KindFoot, []byte("new")))
			f.Crash([]int{100})
			wantNoLeaf(t, k, 2, api.KindFoot, api.ErrTorn, "page")
		}
	}
}

// run is a device that goes on through many crashes, and what is known of it.
type run struct {
	f    *flash.Flash
	k    *ticket.Ticket
	r    *rand.Rand
	firm int               // the greatest stamp that was given for good
	put  [pages][]api.Leaf // what was put to a page, also where the power went at it
	safe [pages]api.Leaf   // what a page has for good, till it is put to again
	is   [pages]bool       // is that known?
}

// newRun is such a run, whose first stamp is near to a byte's end.
func newRun(t *testing.T, seed uint64) *run {
	x := &run{f: device(t, pages+1), r: rand.New(rand.NewPCG(seed, 10))}
	stamp := []uint64{1, 250, 65530, 1<<32 - 5}[seed%4]
	lay(t, x.f, pages, ends(stamp, stamp))
	x.firm = int(stamp)
	x.k = open(t, x.f)
	return x
}

// write puts something, or puts it firmly, and holds what is answered against what is known.
func (x *run) write(t *testing.T) {
	t.Helper()
	at, firm := x.r.IntN(pages), x.r.IntN(3) == 0
	y := leafOf(x.k.Next(), kinds[x.r.IntN(len(kinds))], some(x.r.IntN(api.Room+1)))
	loose, down := x.k.Loose(), x.k.Down()
	// Once the power has gone, the page at which it went may wait with the next stamp, that was not given.
	if !down && y.Stamp <= greatest(x.f) || y.Stamp <= x.firm {
		t.Fatalf("stamp %d was given: %d is there, %d for good", y.Stamp, greatest(x.f), x.firm)
	}
	call := x.k.Put
	if firm {
		call = x.k.Firm
	}
	err := call(at, y.Kind, y.Bytes)
	if !down {
		x.put[at], x.is[at] = append(x.put[at], y), false
	}
	given := 0
	if err == nil || trouble.Chain(err)[0].Op == "firm" {
		given = 1
	}
	wantNext(t, x.k, y.Stamp+given)
	if (err != nil) != x.k.Down() || !down && !firm && x.k.Loose() != loose+1 {
		t.Fatalf("%v, Down %v, Loose %d", err, x.k.Down(), x.k.Loose())
	}
	if firm && err == nil {
		x.firm = y.Stamp
		x.settle(t)
		if x.k.Loose() != 0 || !equal(x.safe[at], y) {
			t.Fatalf("what was put firmly is not: %v, want %v", x.safe[at], y)
		}
	}
}

// settle finds what each page has: one of those that were put there, or nothing that can be read.
func (x *run) settle(t *testing.T) {
	t.Helper()
	for at := range pages {
		found := false
		for _, kind := range kinds {
			y, err := x.k.Get(at, kind)
			code := trouble.Of(err)
			if err == nil {
				found = true
				if x.is[at] && !equal(y, x.safe[at]) || !slices.ContainsFunc(x.put[at], func(z api.Leaf) bool { return equal(y, z) }) {
					t.Fatalf("page %d has %v, that was never put there", at, y)
				}
				x.safe[at], x.is[at] = y, true
				continue
			}
			if code != api.ErrKind && code != api.ErrTorn && code != api.ErrNone {
				t.Fatalf("page %d: %v", at, err)
			}
		}
		if x.is[at] && !found {
			t.Fatalf("page %d has lost what it had for good", at)
		}
	}
}

// crash has the power go, and opens what is left.
func (x *run) crash(t *testing.T) {
	t.Helper()
	var keep []int
	for range x.k.Loose() {
		keep = append(keep, []int{0, 1, 6, 7, 8, 9, 247, 248, 253, 254, 255, 256, x.r.IntN(257), x.r.IntN(257)}[x.r.IntN(14)])
	}
	x.f.Crash(keep)
	x.k = open(t, x.f)
	wantNext(t, x.k, greatest(x.f)+1)
	x.settle(t)
}

// 10.5: no stamp is given twice, whatever is torn; what is torn is never read as anything else.
func TestRuns(t *testing.T) {
	for seed := range uint64(120) {
		x := newRun(t, seed)
		for range 40 {
			x.f.Fuse(x.r.IntN(12) - 3)
			for range x.r.IntN(8) {
				x.write(t)
			}
			x.crash(t)
		}
	}
}

// 10.1 and 10.2: tickets of two devices have nothing to do with each other.
func TestTwo(t *testing.T) {
	a, b := blank(t), blank(t)
	done(t, a.Firm(0, api.KindData, []byte("a")))
	done(t, a.Put(1, api.KindData, []byte("b")))
	cut(t, a)
	done(t, b.Put(0, api.KindFoot, []byte("c")))
	wantNext(t, a, 3)
	wantNext(t, b, 2)
	wantLeaf(t, b, 0, leafOf(1, api.KindFoot, []byte("c")))
	a.Crash(nil)
	wantLeaf(t, a, 0, leafOf(1, api.KindData, []byte("a")))
	wantNoLeaf(t, a, 1, api.KindData, api.ErrNone, "page")
}

// R3: what is handed in is neither changed nor kept, nor what lies behind its length; what is answered is new memory.
func TestMemory(t *testing.T) {
	for _, firm := range []bool{false, true} {
		k := blank(t)
		call := k.Put
		if firm {
			call = k.Firm
		}
		b := []byte("abcdef")
		done(t, call(1, api.KindData, b[:3]))
		if string(b) != "abcdef" {
			t.Errorf("what was handed in is %q", b)
		}
		b[0] = 'z'
		want := leafOf(1, api.KindData, []byte("abc"))
		wantLeaf(t, k, 1, want)
		for range 2 {
			x, err := k.Get(1, api.KindData)
			done(t, err)
			behind := x.Bytes[:cap(x.Bytes)]
			clear(behind)
			wantLeaf(t, k, 1, want)
		}
		long := bytes.Repeat([]byte{7}, 300)
		done(t, call(2, api.KindData, long[:0]))
		wantLeaf(t, k, 2, leafOf(2, api.KindData, nil))
	}
}
