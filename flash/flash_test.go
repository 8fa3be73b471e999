package flash_test

import (
	"bytes"
	"errors"
	"fmt"
	"math"
	"slices"
	"testing"

	"buttery/api"
	"buttery/flash"
	"buttery/trouble"
)

// The calls with the signatures that the chapter lists.
var (
	_ func(int) (*flash.Flash, error)         = flash.New
	_ func(*flash.Flash) int                  = (*flash.Flash).Pages
	_ func(*flash.Flash, int, []byte) error   = (*flash.Flash).Write
	_ func(*flash.Flash, int) error           = (*flash.Flash).Trim
	_ func(*flash.Flash, int) ([]byte, error) = (*flash.Flash).Read
	_ func(*flash.Flash) error                = (*flash.Flash).Flush
	_ func(*flash.Flash, int)                 = (*flash.Flash).Fuse
	_ func(*flash.Flash) bool                 = (*flash.Flash).Down
	_ func(*flash.Flash, []int)               = (*flash.Flash).Crash
	_ func(*flash.Flash) int                  = (*flash.Flash).Loose
	_ func(*flash.Flash) int                  = (*flash.Flash).Done
	_ func(*flash.Flash) []api.Cell           = (*flash.Flash).Cells
)

// pages is how many pages the tests' devices have, where that does not matter.
const pages = 4

// outside is pages that a device of so many has not.
func outside(n int) []int {
	return []int{-1, -2, -n, n, n + 1, api.MaxPages, math.MaxInt, math.MinInt}
}

// sizes is how many bytes are not a page's.
var sizes = []int{0, 1, 16, api.Room, api.Page - 1, api.Page + 1, 2 * api.Page, api.MaxValue}

// all is a page of one byte, over and over.
func all(c byte) []byte { return bytes.Repeat([]byte{c}, api.Page) }

// part is a page whose first n bytes are a's, and those behind b's.
func part(n int, a, b []byte) []byte { return slices.Concat(a[:n], b[n:]) }

// rising is a page of bytes each of which stands there once, so that none can be taken for another.
func rising(from byte) []byte {
	b := make([]byte, api.Page)
	for i := range b {
		b[i] = from + byte(i)
	}
	return b
}

// cell is a page that is not blank.
func cell(at int, b []byte) api.Cell { return api.Cell{At: at, Bytes: b} }

// device is a new device of so many pages.
func device(t *testing.T, n int) *flash.Flash {
	t.Helper()
	f, err := flash.New(n)
	if err != nil || f == nil {
		t.Fatalf("New(%d) = %v, %v", n, f, err)
	}
	return f
}

// done fails if a call that should be done was refused.
func done(t *testing.T, err error) {
	t.Helper()
	if err != nil {
		t.Fatalf("refused: %v", err)
	}
}

// wantFault holds an error against the one link that it should have.
func wantFault(t *testing.T, err error, op string, at int, code api.Code) {
	t.Helper()
	want := []api.Step{{Op: op, At: at, Code: code}}
	if got := trouble.Chain(err); !slices.Equal(got, want) {
		t.Errorf("got %v, want %v", got, want)
	}
	if trouble.Of(err) != code {
		t.Errorf("Of is %d, want %d", trouble.Of(err), code)
	}
}

// wantRead holds a page against what it should be.
func wantRead(t *testing.T, f *flash.Flash, at int, want []byte) {
	t.Helper()
	b, err := f.Read(at)
	if err != nil || !bytes.Equal(b, want) {
		t.Errorf("Read(%d) = %v, %v, want %v", at, b, err, want)
	}
}

// wantCells holds the pages that are not blank against those that should be.
func wantCells(t *testing.T, f *flash.Flash, want ...api.Cell) {
	t.Helper()
	got := f.Cells()
	same := slices.EqualFunc(got, want, func(a, b api.Cell) bool {
		return a.At == b.At && bytes.Equal(a.Bytes, b.Bytes)
	})
	if !same {
		t.Errorf("Cells is %v, want %v", got, want)
	}
}

// wantState holds all that is told without a page against what it should be.
func wantState(t *testing.T, f *flash.Flash, loose, count int, down bool) {
	t.Helper()
	if f.Loose() != loose || f.Done() != count || f.Down() != down {
		t.Errorf("Loose %d, Done %d, Down %v, want %d, %d, %v", f.Loose(), f.Done(), f.Down(), loose, count, down)
	}
}

// gone is a device whose power went at its only change: page 1, all 7.
func gone(t *testing.T) *flash.Flash {
	t.Helper()
	f := device(t, pages)
	f.Fuse(0)
	wantFault(t, f.Write(1, all(7)), "write", 1, api.ErrDown)
	wantState(t, f, 1, 1, true)
	return f
}

// 4.5, and the chapter's example: Write of page 1, all 7; Crash of 3: its first three bytes are 7.
func TestExample(t *testing.T) {
	f := device(t, pages)
	done(t, f.Write(1, all(7)))
	f.Crash([]int{3})
	wantRead(t, f, 1, part(3, all(7), all(0)))
	wantCells(t, f, cell(1, part(3, all(7), all(0))))
	wantState(t, f, 0, 1, false)
}

// 4.1: a device has from 1 to MaxPages pages.
func TestNewRange(t *testing.T) {
	for _, n := range []int{0, -1, -2, -api.MaxPages, math.MinInt, api.MaxPages + 1, api.MaxPages + 2, 1 << 20, math.MaxInt} {
		f, err := flash.New(n)
		if f != nil {
			t.Errorf("New(%d) is a device", n)
		}
		wantFault(t, err, "pages", n, api.ErrRange)
	}
	if api.MaxPages != 4096 || api.Page != 256 {
		t.Error("the limits are others than the chapter's")
	}
}

// 4.1: a new device has so many pages, all blank, and nothing was done to it.
func TestNew(t *testing.T) {
	for _, n := range []int{1, 2, 3, 255, 256, 4095, 4096} {
		f := device(t, n)
		if f.Pages() != n {
			t.Errorf("Pages is %d, want %d", f.Pages(), n)
		}
		wantState(t, f, 0, 0, false)
		wantCells(t, f)
		for at := range n {
			wantRead(t, f, at, all(0))
		}
		done(t, f.Write(n-1, all(9)))
		wantRead(t, f, n-1, all(9))
		wantFault(t, f.Write(n, all(9)), "write", n, api.ErrRange)
		if f.Pages() != n {
			t.Errorf("Pages is %d behind a write, want %d", f.Pages(), n)
		}
	}
}

// 4.1: devices have nothing to do with each other.
func TestTwoDevices(t *testing.T) {
	a, b := device(t, 2), device(t, 3)
	a.Fuse(1)
	done(t, a.Write(0, all(1)))
	done(t, b.Write(0, all(2)))
	done(t, b.Flush())
	wantFault(t, a.Flush(), "flush", 1, api.ErrDown)
	wantState(t, a, 1, 2, true)
	wantState(t, b, 0, 2, false)
	a.Crash(nil)
	wantCells(t, a)
	wantCells(t, b, cell(0, all(2)))
	if a.Pages() != 2 || b.Pages() != 3 {
		t.Error("the devices' pages")
	}
}

// 4.2 and 4.3: no page below 0, nor behind the last; nothing is changed.
func TestNoSuchPage(t *testing.T) {
	for _, n := range []int{1, pages, api.MaxPages} {
		f := device(t, n)
		f.Fuse(0)
		for _, at := range outside(n) {
			wantFault(t, f.Write(at, all(7)), "write", at, api.ErrRange)
			wantFault(t, f.Trim(at), "trim", at, api.ErrRange)
			b, err := f.Read(at)
			if len(b) != 0 {
				t.Errorf("Read(%d) is %v", at, b)
			}
			wantFault(t, err, "read", at, api.ErrRange)
		}
		wantState(t, f, 0, 0, false)
		wantCells(t, f)
		// None of these was a change at which the power goes.
		wantFault(t, f.Trim(0), "trim", 0, api.ErrDown)
	}
}

// 4.2: what is written is Page bytes, no fewer and no more; nothing is changed by what is not.
func TestWriteSize(t *testing.T) {
	f := device(t, pages)
	done(t, f.Write(1, all(7)))
	f.Fuse(0)
	for _, size := range sizes {
		wantFault(t, f.Write(1, make([]byte, size)), "write", 1, api.ErrSize)
		wantFault(t, f.Write(0, bytes.Repeat([]byte{5}, size)), "write", 0, api.ErrSize)
	}
	wantFault(t, f.Write(2, nil), "write", 2, api.ErrSize)
	wantState(t, f, 1, 1, false)
	wantCells(t, f, cell(1, all(7)))
	wantFault(t, f.Write(1, all(8)), "write", 1, api.ErrDown)
}

// 4.2 and R6: ErrDown is ahead of ErrRange, that ahead of ErrSize.
func TestCodeFirst(t *testing.T) {
	f := device(t, pages)
	for _, at := range []int{-1, pages, math.MaxInt, math.MinInt} {
		for _, size := range sizes {
			wantFault(t, f.Write(at, make([]byte, size)), "write", at, api.ErrRange)
		}
		wantFault(t, f.Write(at, nil), "write", at, api.ErrRange)
	}
	f = gone(t)
	for _, at := range []int{-1, 0, 1, pages - 1, pages, math.MaxInt, math.MinInt} {
		for _, size := range append(sizes, api.Page) {
			wantFault(t, f.Write(at, make([]byte, size)), "write", at, api.ErrDown)
		}
		wantFault(t, f.Trim(at), "trim", at, api.ErrDown)
		b, err := f.Read(at)
		if len(b) != 0 {
			t.Errorf("Read(%d) is %v while the power has gone", at, b)
		}
		wantFault(t, err, "read", at, api.ErrDown)
	}
	wantState(t, f, 1, 1, true)
}

// 4.2: an error is told by its code, also under others.
func TestErrorsIs(t *testing.T) {
	_, err := device(t, pages).Read(pages)
	if !errors.Is(err, trouble.New("any", 0, api.ErrRange)) || errors.Is(err, trouble.New("read", pages, api.ErrDown)) {
		t.Errorf("%v", err)
	}
	if trouble.Text(err) != "read 4 code 2" {
		t.Errorf("%q", trouble.Text(err))
	}
}

// 4.2 and 4.3: what waits is read, the last change of a page alone, and no other page is touched.
func TestReadWaits(t *testing.T) {
	f := device(t, pages)
	done(t, f.Write(2, rising(1)))
	wantRead(t, f, 2, rising(1))
	for _, at := range []int{0, 1, 3} {
		wantRead(t, f, at, all(0))
	}
	done(t, f.Write(0, all(3)))
	done(t, f.Write(2, rising(90)))
	wantRead(t, f, 2, rising(90))
	wantRead(t, f, 0, all(3))
	wantState(t, f, 3, 3, false)
	wantCells(t, f, cell(0, all(3)), cell(2, rising(90)))
}

// 4.2 and 4.3: what is safe is read; what waits is ahead of it.
func TestReadSafe(t *testing.T) {
	f := device(t, pages)
	done(t, f.Write(2, rising(1)))
	done(t, f.Flush())
	wantRead(t, f, 2, rising(1))
	wantState(t, f, 0, 2, false)
	done(t, f.Write(2, all(5)))
	wantRead(t, f, 2, all(5))
	wantState(t, f, 1, 3, false)
	done(t, f.Flush())
	wantRead(t, f, 2, all(5))
	wantCells(t, f, cell(2, all(5)))
}

// 4.2 and 4.3: what was trimmed is blank, whether it waited, was safe, or was blank before; and may be written again.
func TestReadTrimmed(t *testing.T) {
	f := device(t, pages)
	done(t, f.Write(1, all(1)))
	done(t, f.Flush())
	done(t, f.Write(2, all(2)))
	for _, at := range []int{1, 2, 3} {
		done(t, f.Trim(at))
		wantRead(t, f, at, all(0))
	}
	wantState(t, f, 4, 6, false)
	wantCells(t, f)
	done(t, f.Flush())
	for at := range pages {
		wantRead(t, f, at, all(0))
	}
	wantCells(t, f)
	done(t, f.Write(1, all(4)))
	wantRead(t, f, 1, all(4))
	wantCells(t, f, cell(1, all(4)))
}

// 4.2 and 4.6: a page of noughts is blank, however it came to be so.
func TestWriteBlank(t *testing.T) {
	f := device(t, pages)
	done(t, f.Write(0, all(0)))
	wantState(t, f, 1, 1, false)
	wantCells(t, f)
	done(t, f.Write(1, all(1)))
	done(t, f.Flush())
	done(t, f.Write(1, all(0)))
	wantRead(t, f, 1, all(0))
	wantCells(t, f)
	done(t, f.Flush())
	wantRead(t, f, 1, all(0))
	wantCells(t, f)
	// One byte that is none, at either end, is enough.
	for _, n := range []int{0, api.Page - 1} {
		b := all(0)
		b[n] = 1
		done(t, f.Write(3, b))
		wantCells(t, f, cell(3, b))
	}
}

// 4.4: all that waits is safe behind a flush, the last change of a page being what it is.
func TestFlushInOrder(t *testing.T) {
	f := device(t, pages)
	done(t, f.Write(0, all(1)))
	done(t, f.Write(0, all(2)))
	done(t, f.Trim(1))
	done(t, f.Write(1, all(3)))
	done(t, f.Write(2, all(4)))
	done(t, f.Trim(2))
	done(t, f.Write(3, all(5)))
	done(t, f.Trim(3))
	done(t, f.Write(3, all(6)))
	wantState(t, f, 9, 9, false)
	done(t, f.Flush())
	wantState(t, f, 0, 10, false)
	want := []api.Cell{cell(0, all(2)), cell(1, all(3)), cell(3, all(6))}
	wantCells(t, f, want...)
	wantRead(t, f, 2, all(0))
	f.Crash([]int{0, 0, 0, 0, 0, 0, 0, 0, 0})
	wantCells(t, f, want...)
	wantState(t, f, 0, 10, false)
}

// 4.4 and 4.6: a flush of nothing is done, and counted.
func TestFlushNothing(t *testing.T) {
	f := device(t, pages)
	for i := range 3 {
		done(t, f.Flush())
		wantState(t, f, 0, i+1, false)
	}
	f.Fuse(0)
	wantFault(t, f.Flush(), "flush", 0, api.ErrDown)
	wantState(t, f, 0, 4, true)
	wantFault(t, f.Flush(), "flush", 0, api.ErrDown)
	wantState(t, f, 0, 4, true)
}

// 4.4: while the power has gone a flush tells how many wait, and makes nothing safe.
func TestFlushDown(t *testing.T) {
	for loose := 1; loose < 5; loose++ {
		f := device(t, pages)
		f.Fuse(loose - 1)
		for i := range loose {
			err := f.Write(i%pages, all(7))
			if (err != nil) != (i == loose-1) {
				t.Errorf("change %d of %d: %v", i, loose, err)
			}
		}
		for range 2 {
			wantFault(t, f.Flush(), "flush", loose, api.ErrDown)
			wantState(t, f, loose, loose, true)
		}
		f.Crash(nil)
		wantCells(t, f)
	}
}

// 4.5: a write at which the power goes waits, but is answered by ErrDown.
func TestFuseWrite(t *testing.T) {
	for keep, want := range map[int][]byte{0: all(1), 100: part(100, all(2), all(1)), api.Page: all(2)} {
		f := device(t, pages)
		done(t, f.Write(1, all(1)))
		done(t, f.Flush())
		f.Fuse(0)
		wantFault(t, f.Write(1, all(2)), "write", 1, api.ErrDown)
		wantState(t, f, 1, 3, true)
		wantCells(t, f, cell(1, all(2)))
		f.Crash([]int{keep})
		wantState(t, f, 0, 3, false)
		wantRead(t, f, 1, want)
	}
}

// 4.5: a trim at which the power goes waits, but is answered by ErrDown.
func TestFuseTrim(t *testing.T) {
	for keep, want := range map[int][]byte{0: all(1), api.Page - 1: all(1), api.Page: all(0)} {
		f := device(t, pages)
		done(t, f.Write(1, all(1)))
		done(t, f.Flush())
		f.Fuse(0)
		wantFault(t, f.Trim(1), "trim", 1, api.ErrDown)
		wantState(t, f, 1, 3, true)
		wantCells(t, f)
		f.Crash([]int{keep})
		wantState(t, f, 0, 3, false)
		wantRead(t, f, 1, want)
	}
}

// 4.5: a flush at which the power goes makes nothing safe: all that waited does so still.
func TestFuseFlush(t *testing.T) {
	for keep, want := range map[int][]byte{0: all(1), 5: part(5, all(2), all(1)), api.Page: all(2)} {
		f := device(t, pages)
		done(t, f.Write(1, all(1)))
		done(t, f.Flush())
		done(t, f.Write(1, all(2)))
		done(t, f.Trim(3))
		f.Fuse(0)
		wantFault(t, f.Flush(), "flush", 2, api.ErrDown)
		wantState(t, f, 2, 5, true)
		wantCells(t, f, cell(1, all(2)))
		f.Crash([]int{keep})
		wantState(t, f, 0, 5, false)
		wantRead(t, f, 1, want)
	}
}

// turns is a write, a trim and a flush by turns.
func turns(f *flash.Flash, i int) error {
	switch i % 3 {
	case 0:
		return f.Write(i%pages, all(byte(i+1)))
	case 1:
		return f.Trim((i + 1) % pages)
	}
	return f.Flush()
}

// 4.5: the power goes at just the change that is told; ahead of it all are done, behind it none.
func TestFuseCounts(t *testing.T) {
	const calls = 9
	for n := range calls {
		f := device(t, pages)
		f.Fuse(n)
		for i := range calls {
			err := turns(f, i)
			if i < n && err != nil || i >= n && trouble.Of(err) != api.ErrDown {
				t.Errorf("Fuse(%d), call %d: %v", n, i, err)
			}
			if f.Down() != (i >= n) || f.Done() != min(i, n)+1 {
				t.Errorf("Fuse(%d), call %d: Down %v, Done %d", n, i, f.Down(), f.Done())
			}
		}
	}
}

// 4.5: below 0 the power goes at none, and none takes the place of one.
func TestFuseNone(t *testing.T) {
	for _, n := range []int{-1, -2, -100, math.MinInt} {
		for _, earlier := range []int{-1, 0, 1, 2} {
			f := device(t, pages)
			f.Fuse(earlier)
			f.Fuse(n)
			for i := range 300 {
				done(t, turns(f, i))
			}
			wantState(t, f, 0, 300, false)
		}
	}
	f := device(t, pages)
	f.Fuse(math.MaxInt)
	for i := range 300 {
		done(t, turns(f, i))
	}
}

// 4.5: a later fuse takes an earlier one's place, sooner or later than it, also behind some calls.
func TestFuseLater(t *testing.T) {
	for _, earlier := range []int{-1, 3, 4, 100} {
		for later := range 4 {
			f := device(t, pages)
			f.Fuse(earlier)
			for i := range 3 {
				done(t, turns(f, i))
			}
			f.Fuse(later)
			for i := range later {
				done(t, turns(f, i))
			}
			if err := turns(f, later); trouble.Of(err) != api.ErrDown {
				t.Errorf("Fuse(%d) behind Fuse(%d): %v", later, earlier, err)
			}
			wantState(t, f, f.Loose(), 4+later, true)
		}
	}
}

// 4.5: what an error refuses, and what is read, burns no fuse.
func TestFuseRefused(t *testing.T) {
	f := device(t, pages)
	f.Fuse(1)
	for range 5 {
		wantFault(t, f.Write(-1, all(1)), "write", -1, api.ErrRange)
		wantFault(t, f.Write(0, nil), "write", 0, api.ErrSize)
		wantFault(t, f.Trim(pages), "trim", pages, api.ErrRange)
		wantRead(t, f, 0, all(0))
		f.Pages()
		f.Cells()
		wantState(t, f, 0, 0, false)
	}
	done(t, f.Trim(0))
	wantFault(t, f.Flush(), "flush", 1, api.ErrDown)
}

// 4.5: a fuse that is told while the power has gone brings it not back; behind a crash there is none.
func TestFuseDown(t *testing.T) {
	for _, n := range []int{-1, 0, 1, 5} {
		f := gone(t)
		f.Fuse(n)
		wantState(t, f, 1, 1, true)
		wantFault(t, f.Write(0, all(1)), "write", 0, api.ErrDown)
		wantFault(t, f.Flush(), "flush", 1, api.ErrDown)
		f.Crash(nil)
		for i := range 30 {
			done(t, turns(f, i))
		}
		wantState(t, f, 0, 31, false)
	}
}

// 4.5: behind a crash there is no fuse, also where the power had not gone yet.
func TestCrashFuse(t *testing.T) {
	for n := range 5 {
		f := device(t, pages)
		f.Fuse(n)
		f.Crash(nil)
		for i := range 30 {
			done(t, turns(f, i))
		}
		// It can be told anew.
		f.Fuse(0)
		wantFault(t, f.Flush(), "flush", 0, api.ErrDown)
	}
}

// 4.5: while the power has gone, nothing is answered but what is told of the device, and nothing changes.
func TestDownAll(t *testing.T) {
	f := gone(t)
	for range 3 {
		wantFault(t, f.Write(0, all(1)), "write", 0, api.ErrDown)
		wantFault(t, f.Trim(1), "trim", 1, api.ErrDown)
		wantFault(t, f.Flush(), "flush", 1, api.ErrDown)
		b, err := f.Read(1)
		if len(b) != 0 {
			t.Errorf("Read is %v", b)
		}
		wantFault(t, err, "read", 1, api.ErrDown)
		wantState(t, f, 1, 1, true)
		wantCells(t, f, cell(1, all(7)))
		if f.Pages() != pages {
			t.Errorf("Pages is %d", f.Pages())
		}
	}
	f.Crash(nil)
	wantState(t, f, 0, 1, false)
	wantRead(t, f, 1, all(0))
	done(t, f.Write(0, all(1)))
	done(t, f.Flush())
	wantState(t, f, 0, 3, false)
	wantCells(t, f, cell(0, all(1)))
}

// 4.5: of a write so many first bytes are put over what is safe, none below 0, at most all.
func TestCrashWrite(t *testing.T) {
	before, after := rising(200), all(7)
	for _, x := range []struct {
		keep []int
		n    int
	}{
		{nil, 0}, {[]int{}, 0}, {[]int{0}, 0}, {[]int{-1}, 0}, {[]int{-256}, 0}, {[]int{math.MinInt}, 0},
		{[]int{1}, 1}, {[]int{3}, 3}, {[]int{128}, 128}, {[]int{255}, 255}, {[]int{256}, 256},
		{[]int{257}, 256}, {[]int{512}, 256}, {[]int{math.MaxInt}, 256},
		{[]int{0, 256, 256}, 0}, {[]int{9, -1, 256}, 9}, {[]int{256, 0}, 256},
	} {
		f := device(t, pages)
		done(t, f.Write(1, before))
		done(t, f.Flush())
		done(t, f.Write(1, after))
		f.Crash(x.keep)
		wantRead(t, f, 1, part(x.n, after, before))
		wantState(t, f, 0, 3, false)
		// Over a blank page, too: what is left may be blank.
		f = device(t, pages)
		done(t, f.Write(1, after))
		f.Crash(x.keep)
		wantRead(t, f, 1, part(x.n, after, all(0)))
		if x.n == 0 {
			wantCells(t, f)
		}
	}
}

// 4.5: every number of first bytes.
func TestCrashEach(t *testing.T) {
	before, after := rising(1), rising(77)
	f := device(t, pages)
	for n := range api.Page + 1 {
		done(t, f.Write(2, before))
		done(t, f.Flush())
		done(t, f.Write(2, after))
		f.Crash([]int{n})
		wantRead(t, f, 2, part(n, after, before))
	}
}

// 4.5: a trim is safe behind Page or more; else it was not.
func TestCrashTrim(t *testing.T) {
	for _, x := range []struct {
		keep []int
		safe bool
	}{
		{nil, false}, {[]int{0}, false}, {[]int{-1}, false}, {[]int{math.MinInt}, false}, {[]int{1}, false}, {[]int{128}, false}, {[]int{255}, false},
		{[]int{256}, true}, {[]int{257}, true}, {[]int{math.MaxInt}, true}, {[]int{0, 256}, false}, {[]int{256, 0}, true},
	} {
		f := device(t, pages)
		done(t, f.Write(1, rising(9)))
		done(t, f.Flush())
		done(t, f.Trim(1))
		f.Crash(x.keep)
		if x.safe {
			wantRead(t, f, 1, all(0))
			wantCells(t, f)
		} else {
			wantRead(t, f, 1, rising(9))
			wantCells(t, f, cell(1, rising(9)))
		}
		wantState(t, f, 0, 3, false)
	}
}

// 4.5: change by change, in order, each by the number in its place; those behind the numbers are lost, numbers behind the changes say nothing.
func TestCrashPlaces(t *testing.T) {
	run := func(keep []int) *flash.Flash {
		f := device(t, pages)
		done(t, f.Write(3, all(9)))
		done(t, f.Flush())
		done(t, f.Write(2, all(1)))
		done(t, f.Trim(3))
		done(t, f.Write(0, all(2)))
		f.Crash(keep)
		wantState(t, f, 0, 5, false)
		return f
	}
	none, kept := all(0), cell(3, all(9))
	wantCells(t, run(nil), kept)
	wantCells(t, run([]int{10}), cell(2, part(10, all(1), none)), kept)
	wantCells(t, run([]int{10, 256}), cell(2, part(10, all(1), none)))
	wantCells(t, run([]int{10, 255, 20}), cell(0, part(20, all(2), none)), cell(2, part(10, all(1), none)), kept)
	wantCells(t, run([]int{-5, 256, 256}), cell(0, all(2)))
	wantCells(t, run([]int{0, 0, 256, 256, 256}), cell(0, all(2)), kept)
	wantCells(t, run([]int{256, 256, 256, 7}), cell(0, all(2)), cell(2, all(1)))
}

// 4.5: several changes of one page, each over what the ones ahead of it left.
func TestCrashOnePage(t *testing.T) {
	run := func(keep ...int) *flash.Flash {
		f := device(t, pages)
		done(t, f.Write(1, all(1)))
		done(t, f.Flush())
		done(t, f.Write(1, all(2)))
		done(t, f.Trim(1))
		done(t, f.Write(1, all(3)))
		done(t, f.Write(1, all(4)))
		f.Crash(keep)
		return f
	}
	want := func(f *flash.Flash, runs ...int) {
		t.Helper()
		var b []byte
		for i := 0; i < len(runs); i += 2 {
			b = append(b, bytes.Repeat([]byte{byte(runs[i+1])}, runs[i])...)
		}
		wantRead(t, f, 1, b)
	}
	want(run(), 256, 1)
	want(run(100), 100, 2, 156, 1)
	want(run(100, 255, 50), 50, 3, 50, 2, 156, 1)
	want(run(100, 256, 50), 50, 3, 206, 0)
	want(run(100, 256, 50, 20), 20, 4, 30, 3, 206, 0)
	want(run(20, 0, 50, 100), 100, 4, 156, 1)
	want(run(256, 0, 0, 256), 256, 4)
	want(run(0, 256, 0, 0), 256, 0)
	want(run(10, 0, 10, 10), 10, 4, 246, 1)
	wantCells(t, run(256, 256))
}

// 4.5 and 4.6: what a crash leaves of noughts alone is a blank page.
func TestCrashBlank(t *testing.T) {
	f := device(t, pages)
	b := part(100, all(0), all(7))
	done(t, f.Write(1, b))
	f.Crash([]int{100})
	wantCells(t, f)
	wantRead(t, f, 1, all(0))
	done(t, f.Write(1, part(3, all(5), all(0))))
	done(t, f.Flush())
	done(t, f.Write(1, b))
	f.Crash([]int{50})
	wantCells(t, f)
	wantRead(t, f, 1, all(0))
}

// 4.5 and 4.7: a crash with nothing that waits changes nothing, whatever the numbers, also again and again.
func TestCrashNothing(t *testing.T) {
	f := device(t, pages)
	done(t, f.Write(1, rising(3)))
	done(t, f.Flush())
	for _, keep := range [][]int{nil, {}, {0}, {3}, {256, 256}, {-1}} {
		f.Crash(keep)
		wantCells(t, f, cell(1, rising(3)))
		wantState(t, f, 0, 2, false)
	}
}

// 4.5: what a crash left is safe: the next one does not undo it.
func TestCrashTwice(t *testing.T) {
	f := device(t, pages)
	done(t, f.Write(1, all(7)))
	f.Crash([]int{9})
	f.Crash(nil)
	wantRead(t, f, 1, part(9, all(7), all(0)))
	done(t, f.Write(1, all(8)))
	f.Crash([]int{4})
	wantRead(t, f, 1, slices.Concat(all(8)[:4], all(7)[:5], all(0)[:247]))
}

// 4.6: Done counts what no error refused, those at which the power went, too, and goes on behind a crash.
func TestDone(t *testing.T) {
	f := device(t, pages)
	want := 0
	for round := range 4 {
		for i := range 3 {
			done(t, turns(f, i))
			want++
			wantState(t, f, f.Loose(), want, false)
		}
		f.Fuse(0)
		if err := turns(f, round); trouble.Of(err) != api.ErrDown {
			t.Errorf("round %d: %v", round, err)
		}
		want++
		for i := range 3 {
			if turns(f, i) == nil {
				t.Errorf("round %d: call %d was done while the power had gone", round, i)
			}
		}
		wantState(t, f, f.Loose(), want, true)
		f.Crash(nil)
		wantState(t, f, 0, want, false)
	}
}

// 4.6: the pages that are not blank, rising, in whichever order they were written, waiting and safe ones together.
func TestCells(t *testing.T) {
	f := device(t, api.MaxPages)
	order := []int{4095, 7, 0, 2048, 9, 1, 4094, 8}
	for i, at := range order {
		done(t, f.Write(at, all(byte(i+1))))
		if i == 3 {
			done(t, f.Flush())
		}
	}
	var want []api.Cell
	for i, at := range order {
		want = append(want, cell(at, all(byte(i+1))))
	}
	slices.SortFunc(want, func(a, b api.Cell) int { return a.At - b.At })
	wantCells(t, f, want...)
	done(t, f.Trim(2048))
	want = slices.DeleteFunc(want, func(c api.Cell) bool { return c.At == 2048 })
	wantCells(t, f, want...)
	f.Fuse(0)
	wantFault(t, f.Flush(), "flush", 5, api.ErrDown)
	wantCells(t, f, want...)
}

// 4.6 and P0: a device that is full.
func TestCellsAll(t *testing.T) {
	f := device(t, api.MaxPages)
	var want []api.Cell
	for at := range api.MaxPages {
		b := rising(byte(at))
		b[0], b[1] = byte(at>>8), byte(at)
		done(t, f.Write(api.MaxPages-1-at, b))
	}
	for at := range api.MaxPages {
		b := rising(byte(api.MaxPages - 1 - at))
		b[0], b[1] = byte((api.MaxPages-1-at)>>8), byte(api.MaxPages-1-at)
		want = append(want, cell(at, b))
	}
	wantCells(t, f, want...)
	wantState(t, f, api.MaxPages, api.MaxPages, false)
	done(t, f.Flush())
	wantCells(t, f, want...)
	f.Crash(nil)
	wantCells(t, f, want...)
	for at := range api.MaxPages {
		done(t, f.Trim(at))
	}
	wantCells(t, f)
	f.Crash(nil)
	wantCells(t, f, want...)
}

// R3: what was handed in is neither changed nor kept, and what lies behind its length says nothing.
func TestHandedIn(t *testing.T) {
	f := device(t, pages)
	b := rising(5)
	was := slices.Clone(b)
	done(t, f.Write(1, b))
	if !bytes.Equal(b, was) {
		t.Error("Write changed what it was handed")
	}
	clear(b)
	wantRead(t, f, 1, was)
	wantCells(t, f, cell(1, was))
	done(t, f.Flush())
	b[0] = 99
	wantRead(t, f, 1, was)
	if !bytes.Equal(b[1:], all(0)[1:]) {
		t.Error("Flush changed what had been handed in")
	}

	long := slices.Concat(rising(9), all(8))
	wantFault(t, f.Write(2, long[:api.Page-1]), "write", 2, api.ErrSize)
	done(t, f.Write(2, long[:api.Page]))
	wantRead(t, f, 2, rising(9))
	if !bytes.Equal(long, slices.Concat(rising(9), all(8))) {
		t.Error("Write wrote into the memory of what it was handed")
	}

	keep := []int{3, 256, 256, 256}
	done(t, f.Write(3, all(1)))
	f.Crash(keep[:1])
	if !slices.Equal(keep, []int{3, 256, 256, 256}) {
		t.Errorf("Crash changed what it was handed: %v", keep)
	}
	wantRead(t, f, 2, part(3, rising(9), all(0)))
	wantRead(t, f, 3, all(0))
}

// R3: what was answered is new memory: whoever writes to it changes neither the device nor another answer, and the device does not change it.
func TestAnswered(t *testing.T) {
	f := device(t, pages)
	done(t, f.Write(0, all(1)))
	done(t, f.Flush())
	done(t, f.Write(1, all(2)))
	spoil := func(b []byte) {
		b = b[:cap(b)]
		for i := range b {
			b[i] = 0xee
		}
	}
	for at, want := range [][]byte{all(1), all(2), all(0)} {
		a, _ := f.Read(at)
		b, _ := f.Read(at)
		spoil(a)
		if !bytes.Equal(b, want) {
			t.Errorf("two answers of page %d are in one memory", at)
		}
		wantRead(t, f, at, want)
	}
	one, two := f.Cells(), f.Cells()
	spoil(one[0].Bytes)
	if !bytes.Equal(one[1].Bytes, all(2)) || !bytes.Equal(two[0].Bytes, all(1)) {
		t.Error("two pages of an answer, or two answers, are in one memory")
	}
	spoil(one[1].Bytes)
	clear(one)
	wantCells(t, f, cell(0, all(1)), cell(1, all(2)))
	f.Crash([]int{256})
	wantCells(t, f, cell(0, all(1)), cell(1, all(2)))

	was, _ := f.Read(0)
	cells := f.Cells()
	done(t, f.Write(0, all(9)))
	done(t, f.Trim(1))
	done(t, f.Flush())
	f.Crash(nil)
	if !bytes.Equal(was, all(1)) || len(cells) != 2 || !bytes.Equal(cells[0].Bytes, all(1)) || !bytes.Equal(cells[1].Bytes, all(2)) {
		t.Error("what was answered changed later")
	}
}

// source is numbers that look as if by chance, the same ones at each run.
func source(seed uint64) func(n int) int {
	return func(n int) int {
		seed += 0x9e3779b97f4a7c15
		z := seed
		z = (z ^ z>>30) * 0xbf58476d1ce4e5b9
		z = (z ^ z>>27) * 0x94d049bb133111eb
		return int((z ^ z>>31) >> 1 % uint64(n))
	}
}

// model is a device as the chapter's words tell it: every page, byte by byte, and all changes that wait.
type model struct {
	safe  [][]byte
	waits []wait
	left  int
	down  bool
	done  int
}

// wait is a change of the model: a trim has no bytes.
type wait struct {
	at int
	b  []byte
}

func newModel(n int) *model {
	m := &model{left: -1}
	for range n {
		m.safe = append(m.safe, all(0))
	}
	return m
}

// count is a call that nothing refused: does the power go at it?
func (m *model) count() bool {
	m.done++
	if m.left < 0 {
		return false
	}
	m.left--
	m.down = m.left < 0
	return m.down
}

func (m *model) change(op string, at int, b []byte) error {
	switch {
	case m.down:
		return trouble.New(op, at, api.ErrDown)
	case at < 0 || at >= len(m.safe):
		return trouble.New(op, at, api.ErrRange)
	case op == "write" && len(b) != api.Page:
		return trouble.New(op, at, api.ErrSize)
	}
	m.waits = append(m.waits, wait{at, b})
	if m.count() {
		return trouble.New(op, at, api.ErrDown)
	}
	return nil
}

func (m *model) flush() error {
	if m.down || m.count() {
		return trouble.New("flush", len(m.waits), api.ErrDown)
	}
	m.safe, m.waits = m.now(), nil
	return nil
}

// now is all pages as they would be read.
func (m *model) now() [][]byte {
	now := slices.Clone(m.safe)
	for _, w := range m.waits {
		now[w.at] = w.b
		if w.b == nil {
			now[w.at] = all(0)
		}
	}
	return now
}

func (m *model) crash(keep []int) {
	for i, w := range m.waits {
		b := slices.Clone(m.safe[w.at])
		for j := range b {
			if w.b != nil && i < len(keep) && j < keep[i] {
				b[j] = w.b[j]
			}
			if w.b == nil && i < len(keep) && keep[i] >= api.Page {
				b[j] = 0
			}
		}
		m.safe[w.at] = b
	}
	m.waits, m.down, m.left = nil, false, -1
}

// agree holds a device against the model, page by page.
func (m *model) agree(t *testing.T, f *flash.Flash) {
	t.Helper()
	wantState(t, f, len(m.waits), m.done, m.down)
	var want []api.Cell
	for at, b := range m.now() {
		if !bytes.Equal(b, all(0)) {
			want = append(want, cell(at, b))
		}
		if !m.down {
			wantRead(t, f, at, b)
			continue
		}
		_, err := f.Read(at)
		wantFault(t, err, "read", at, api.ErrDown)
	}
	wantCells(t, f, want...)
}

// drawPage is a page of few bytes, of which some are noughts, so that blank pages come to be in many ways.
func drawPage(next func(int) int) []byte {
	switch next(4) {
	case 0:
		return part(next(api.Page+1), all(0), all(byte(next(3))))
	case 1:
		return part(next(api.Page+1), all(byte(next(3))), all(0))
	}
	return all(byte(next(4)))
}

// drawKeep is numbers for a crash: too few, just as many, too many, at all edges.
func drawKeep(next func(int) int, loose int) []int {
	var keep []int
	for range next(loose + 3) {
		keep = append(keep, []int{-1, 0, 1, 255, 256, 257, math.MaxInt, math.MinInt, next(256), next(256), 256}[next(11)])
	}
	return keep
}

// sameFault holds two errors against each other.
func sameFault(t *testing.T, got, want error) {
	t.Helper()
	if !slices.Equal(trouble.Chain(got), trouble.Chain(want)) {
		t.Fatalf("got %v, want %v", got, want)
	}
}

// step does one thing, as a source tells it, to a device and to the model.
func step(t *testing.T, next func(int) int, f *flash.Flash, m *model) {
	at := next(len(m.safe)+2) - 1
	switch next(12) {
	case 0, 1, 2, 3:
		b := drawPage(next)
		sameFault(t, f.Write(at, b), m.change("write", at, b))
	case 4, 5:
		sameFault(t, f.Trim(at), m.change("trim", at, nil))
	case 6:
		b := make([]byte, next(600))
		sameFault(t, f.Write(at, b), m.change("write", at, b))
	case 7, 8:
		sameFault(t, f.Flush(), m.flush())
	case 9:
		n := next(12) - 2
		f.Fuse(n)
		m.left = n
	default:
		keep := drawKeep(next, len(m.waits))
		f.Crash(keep)
		m.crash(keep)
	}
}

// 4.1 to 4.6: many runs, held against the chapter's words.
func TestModel(t *testing.T) {
	for seed := range uint64(60) {
		next := source(seed)
		n := 1 + next(5)
		f, m := device(t, n), newModel(n)
		for range 150 {
			step(t, next, f, m)
			m.agree(t, f)
			if t.Failed() {
				t.Fatalf("run %d", seed)
			}
		}
	}
}

// 4.7: behind a crash each byte is one that was safe there, or that a change that waited has there; what no change waited for stays.
func TestCrashOnlyKeeps(t *testing.T) {
	next := source(1000)
	for range 400 {
		f := device(t, pages)
		had := make([][]byte, pages)
		for at := range pages {
			had[at] = rising(byte(next(256)))
			done(t, f.Write(at, had[at]))
		}
		done(t, f.Flush())
		was := make([][][]byte, pages)
		for range next(6) {
			at, b := next(pages-1), rising(byte(next(256)))
			if next(3) == 0 {
				b = all(0)
				done(t, f.Trim(at))
			} else {
				done(t, f.Write(at, b))
			}
			was[at] = append(was[at], b)
		}
		f.Crash(drawKeep(next, f.Loose()))
		for at := range pages {
			b, err := f.Read(at)
			done(t, err)
			for i, c := range b {
				known := c == had[at][i]
				for _, w := range was[at] {
					known = known || c == w[i]
				}
				if !known {
					t.Fatalf("page %d, byte %d: %d was never there", at, i, c)
				}
			}
		}
	}
}

// 4.7: what is flushed stays, through crashes, fuses and changes of other pages.
func TestFlushedStays(t *testing.T) {
	next := source(2000)
	f := device(t, pages)
	done(t, f.Write(3, rising(42)))
	done(t, f.Flush())
	for range 300 {
		f.Fuse(next(6) - 1)
		for range next(8) {
			if next(2) == 0 {
				f.Write(next(3), drawPage(next))
			} else {
				f.Trim(next(3))
			}
			if next(4) == 0 {
				f.Flush()
			}
		}
		f.Crash(drawKeep(next, f.Loose()))
		wantRead(t, f, 3, rising(42))
	}
}

// P10: what is answered hangs on the calls alone: two devices on which the same is done answer the same.
func TestSameTwice(t *testing.T) {
	run := func() string {
		next := source(3000)
		f, m := device(t, 40), newModel(40)
		told := ""
		for range 300 {
			step(t, next, f, m)
			told += fmt.Sprintln(f.Loose(), f.Done(), f.Down(), f.Cells())
		}
		return told
	}
	if run() != run() {
		t.Error("two runs of the same calls are unlike")
	}
}

// P0: many changes that wait, read and flushed.
func TestMany(t *testing.T) {
	const count = 20000
	f := device(t, api.MaxPages)
	for i := range count {
		done(t, f.Write(i%8, all(byte(i))))
	}
	wantState(t, f, count, count, false)
	for at := range 8 {
		wantRead(t, f, at, all(byte(count-8+at)))
	}
	wantRead(t, f, 9, all(0))
	keep := make([]int, count)
	keep[count-1] = 256
	keep[5] = 10
	f.Crash(keep)
	wantCells(t, f, cell(5, part(10, all(5), all(0))), cell(7, all((count-1)&0xff)))
}
