package slab_test

import (
	"errors"
	"math"
	"slices"
	"testing"

	"buttery/api"
	"buttery/slab"
	"buttery/trouble"
)

// The calls and constants with the signatures and values that the chapter lists.
var (
	_ func(int) int                       = slab.Size
	_ func(int) int                       = slab.Class
	_ func(int) (*slab.Budget, error)     = slab.New
	_ func(*slab.Budget) int              = (*slab.Budget).Limit
	_ func(*slab.Budget) int              = (*slab.Budget).Used
	_ func(*slab.Budget) int              = (*slab.Budget).Left
	_ func(*slab.Budget, int) int         = (*slab.Budget).Count
	_ func(*slab.Budget, int) bool        = (*slab.Budget).Fits
	_ func(*slab.Budget, int) error       = (*slab.Budget).Take
	_ func(*slab.Budget, int) error       = (*slab.Budget).Give
	_ func(*slab.Budget, int, int) int    = (*slab.Budget).Fill
	_ func(*slab.Budget, int, int) int    = (*slab.Budget).Drain
	_ func(int, int, func(int) error) int = slab.Many
	_ [9]int                              = [slab.Classes]int{}
	_ [32]int                             = [slab.Least]int{}
)

// sizes is how many bytes a thing of each class takes, by the chapter's words.
var sizes = []int{32, 64, 128, 256, 512, 1024, 2048, 4096, 8192}

// noClasses is classes that there are not, those among them by which a shift would come round again.
var noClasses = []int{-1, -2, -9, -32, 9, 10, 27, 31, 32, 58, 63, 64, 65, 256, 1 << 32, 1<<32 + 1, math.MaxInt, math.MaxInt - 1, math.MinInt, math.MinInt + 1}

// noTimes is numbers below 1, as often as which nothing is done.
var noTimes = []int{0, -1, -2, -100, math.MinInt, math.MinInt + 1}

// limits is limits of budgets: both ends, about each size, and some between.
func limits() []int {
	l := []int{1, 2, 3, 16, 17, 95, 96, 97, 100, 1000, 10000, 1 << 20, 1<<31 - 1, 1 << 31, 1 << 32, api.MaxNum - 1, api.MaxNum}
	for _, size := range sizes {
		l = append(l, size-1, size, size+1, 2*size-1, 2*size, 2*size+1)
	}
	return l
}

// source is numbers that look as if by chance, the same ones at each run.
func source(seed uint64) func(int) int {
	return func(n int) int {
		seed += 0x9e3779b97f4a7c15
		z := seed
		z = (z ^ z>>30) * 0xbf58476d1ce4e5b9
		z = (z ^ z>>27) * 0x94d049bb133111eb
		return int((z ^ z>>31) % uint64(n))
	}
}

// budget is a new budget.
func budget(t *testing.T, limit int) *slab.Budget {
	t.Helper()
	b, err := slab.New(limit)
	if err != nil || b == nil {
		t.Fatalf("New(%d) = %v, %v", limit, b, err)
	}
	return b
}

// done fails if a call that should be done was refused.
func done(t *testing.T, err error) {
	t.Helper()
	if err != nil {
		t.Fatalf("refused: %v", err)
	}
}

// wantFault holds an error against the one link that it should have.
func wantFault(t *testing.T, err error, op string, at int, code api.Code) {
	t.Helper()
	want := []api.Step{{Op: op, At: at, Code: code}}
	if got := trouble.Chain(err); !slices.Equal(got, want) {
		t.Errorf("got %v, want %v", got, want)
	}
	if trouble.Of(err) != code {
		t.Errorf("Of is %d, want %d", trouble.Of(err), code)
	}
}

// wantBudget holds all that a budget tells against its limit and how many things of each class it should have: the first classes' numbers stand there, those of the others are 0.
func wantBudget(t *testing.T, b *slab.Budget, limit int, counts ...int) {
	t.Helper()
	used := 0
	for class, size := range sizes {
		n := 0
		if class < len(counts) {
			n = counts[class]
		}
		used += n * size
		if got := b.Count(class); got != n {
			t.Errorf("Count(%d) is %d, want %d", class, got, n)
		}
	}
	if b.Limit() != limit || b.Used() != used || b.Left() != limit-used {
		t.Errorf("Limit %d, Used %d, Left %d, want %d, %d, %d", b.Limit(), b.Used(), b.Left(), limit, used, limit-used)
	}
	for _, class := range noClasses {
		if got := b.Count(class); got != 0 {
			t.Errorf("Count(%d) is %d", class, got)
		}
	}
}

// The chapter's example: a budget of 100: one thing of 33 to 64 bytes has room, a second one has not.
func TestExample(t *testing.T) {
	for n := 33; n <= 64; n++ {
		b := budget(t, 100)
		if !b.Fits(n) {
			t.Errorf("%d bytes do not fit", n)
		}
		done(t, b.Take(slab.Class(n)))
		wantBudget(t, b, 100, 0, 1)
		wantFault(t, b.Take(slab.Class(n)), "take", 64, api.ErrFull)
		wantBudget(t, b, 100, 0, 1)
	}
}

// 8.1: 32 bytes of the class 0, twice as many of each next one; 0 of a class that there is not.
func TestSize(t *testing.T) {
	if len(sizes) != slab.Classes || sizes[0] != slab.Least {
		t.Fatal(slab.Classes, slab.Least)
	}
	for class, want := range sizes {
		if got := slab.Size(class); got != want {
			t.Errorf("Size(%d) is %d, want %d", class, got, want)
		}
	}
	for _, class := range noClasses {
		if got := slab.Size(class); got != 0 {
			t.Errorf("Size(%d) is %d", class, got)
		}
	}
	for class := -300; class < 300; class++ {
		if got := slab.Size(class); (class < 0 || class > 8) && got != 0 {
			t.Errorf("Size(%d) is %d", class, got)
		}
	}
}

// classByWords is Class by the chapter's words alone.
func classByWords(n int) int {
	if n < 0 {
		return -1
	}
	return slices.IndexFunc(sizes, func(size int) bool { return size >= n })
}

// 8.1: the least class whose Size is n or more; -1, if there is none, or n is below 0.
func TestClass(t *testing.T) {
	edges := []struct{ n, want int }{
		{math.MinInt, -1}, {-32, -1}, {-1, -1}, {0, 0}, {1, 0}, {31, 0}, {32, 0}, {33, 1}, {63, 1}, {64, 1}, {65, 2}, {128, 2}, {129, 3}, {256, 3}, {257, 4},
		{512, 4}, {513, 5}, {1024, 5}, {1025, 6}, {2048, 6}, {2049, 7}, {4096, 7}, {4097, 8}, {8191, 8}, {8192, 8}, {8193, -1}, {16384, -1}, {1 << 32, -1},
		{1<<32 + 1, -1}, {api.MaxNum, -1}, {math.MaxInt, -1},
	}
	for _, c := range edges {
		if got := slab.Class(c.n); got != c.want {
			t.Errorf("Class(%d) is %d, want %d", c.n, got, c.want)
		}
	}
	for n := -300; n < 20000; n++ {
		if got, want := slab.Class(n), classByWords(n); got != want {
			t.Errorf("Class(%d) is %d, want %d", n, got, want)
		}
	}
}

// 8.2: a limit from 1 to MaxNum has a budget of which nothing is taken, also where no thing has room.
func TestNew(t *testing.T) {
	for _, limit := range limits() {
		wantBudget(t, budget(t, limit), limit)
	}
}

// 8.2: a limit out of range is refused, and there is no budget beside the error.
func TestNewRefused(t *testing.T) {
	for _, limit := range []int{0, -1, -2, -32, -100, -api.MaxNum, math.MinInt, math.MinInt + 1, api.MaxNum + 1, api.MaxNum + 2, 2 * api.MaxNum, 1 << 62, math.MaxInt} {
		b, err := slab.New(limit)
		if b != nil {
			t.Errorf("New(%d) is a budget", limit)
		}
		wantFault(t, err, "budget", limit, api.ErrRange)
	}
}

// 8.2: what is taken is told: how many bytes, how many are left, how many things of each class.
func TestTold(t *testing.T) {
	b := budget(t, 20000)
	var counts [slab.Classes]int
	for class := range slab.Classes {
		for range slab.Classes - class {
			if b.Left() < slab.Size(class) {
				break
			}
			done(t, b.Take(class))
			counts[class]++
			wantBudget(t, b, 20000, counts[:]...)
		}
	}
	for class := range slab.Classes {
		for counts[class] > 0 {
			done(t, b.Give(class))
			counts[class]--
			wantBudget(t, b, 20000, counts[:]...)
		}
	}
	wantBudget(t, b, 20000)
}

// 8.3: is there a class of n, and is its Size at most the limit?
func TestFits(t *testing.T) {
	ns := []int{math.MinInt, -1, 0, 1, 2, 31, 8193, 10000, 1 << 32, api.MaxNum, math.MaxInt}
	for _, size := range sizes {
		ns = append(ns, size/2, size/2+1, size-1, size, size+1)
	}
	for _, limit := range limits() {
		b := budget(t, limit)
		for _, n := range ns {
			class := classByWords(n)
			want := class >= 0 && sizes[class] <= limit
			if got := b.Fits(n); got != want {
				t.Errorf("of %d: Fits(%d) is %v", limit, n, got)
			}
		}
		wantBudget(t, b, limit)
	}
}

// 8.3: the edges by number: it is the class's Size that must have room, not the bytes themselves.
func TestFitsEdges(t *testing.T) {
	cases := []struct {
		limit, n int
		want     bool
	}{
		{1, 0, false}, {1, 1, false}, {31, 0, false}, {31, 31, false}, {32, 0, true}, {32, 32, true}, {32, 33, false}, {63, 33, false}, {64, 33, true},
		{100, 64, true}, {100, 65, false}, {8191, 4096, true}, {8191, 4097, false}, {8192, 4097, true}, {8192, 8192, true}, {8192, 8193, false},
		{api.MaxNum, 8192, true}, {api.MaxNum, 8193, false}, {api.MaxNum, -1, false}, {api.MaxNum, math.MinInt, false}, {api.MaxNum, math.MaxInt, false},
	}
	for _, c := range cases {
		if got := budget(t, c.limit).Fits(c.n); got != c.want {
			t.Errorf("of %d: Fits(%d) is %v", c.limit, c.n, got)
		}
	}
}

// 8.3: Fits asks for the limit, not for what is left.
func TestFitsFull(t *testing.T) {
	b := budget(t, 100)
	done(t, b.Take(1))
	done(t, b.Take(0))
	if !b.Fits(64) || !b.Fits(0) || b.Fits(65) {
		t.Error("Fits hangs on what is taken")
	}
	wantBudget(t, b, 100, 1, 1)
}

// 8.4: a thing has room if its Size is just what is left, and not if one byte is missing.
func TestTakeEdges(t *testing.T) {
	for class, size := range sizes {
		b := budget(t, size)
		done(t, b.Take(class))
		var counts [slab.Classes]int
		counts[class] = 1
		wantBudget(t, b, size, counts[:]...)
		wantFault(t, b.Take(0), "take", 32, api.ErrFull)
		wantBudget(t, b, size, counts[:]...)

		b = budget(t, size-1)
		wantFault(t, b.Take(class), "take", size, api.ErrFull)
		wantBudget(t, b, size-1)

		b = budget(t, 2*size-1)
		done(t, b.Take(class))
		wantFault(t, b.Take(class), "take", size, api.ErrFull)
		wantBudget(t, b, 2*size-1, counts[:]...)
	}
}

// 8.4: of a limit below the least size nothing can be taken.
func TestTakeLittle(t *testing.T) {
	for _, limit := range []int{1, 2, 16, 31} {
		b := budget(t, limit)
		for class, size := range sizes {
			wantFault(t, b.Take(class), "take", size, api.ErrFull)
			wantFault(t, b.Give(class), "give", class, api.ErrNone)
		}
		if n := b.Fill(0, math.MaxInt); n != 0 {
			t.Errorf("of %d: %d things", limit, n)
		}
		wantBudget(t, b, limit)
	}
}

// 8.4, R5, R6: a class that there is not is refused, whether there is room or not, and nothing changes.
func TestNoClass(t *testing.T) {
	for _, limit := range []int{1, 32, 100, api.MaxNum} {
		b := budget(t, limit)
		n := b.Fill(0, 1)
		for _, class := range noClasses {
			wantFault(t, b.Take(class), "class", class, api.ErrRange)
			wantFault(t, b.Give(class), "class", class, api.ErrRange)
			for _, most := range []int{math.MinInt, -1, 0, 1, 2, math.MaxInt} {
				if b.Fill(class, most) != 0 || b.Drain(class, most) != 0 {
					t.Errorf("something was done %d times with class %d", most, class)
				}
			}
			wantBudget(t, b, limit, n)
		}
	}
}

// 8.4: a thing can be given back as often as it was taken; that of another class does not do.
func TestGive(t *testing.T) {
	b := budget(t, 1000)
	done(t, b.Take(2))
	done(t, b.Take(2))
	done(t, b.Take(4))
	for class := range slab.Classes {
		if class != 2 && class != 4 {
			wantFault(t, b.Give(class), "give", class, api.ErrNone)
			wantBudget(t, b, 1000, 0, 0, 2, 0, 1)
		}
	}
	done(t, b.Give(2))
	wantBudget(t, b, 1000, 0, 0, 1, 0, 1)
	done(t, b.Give(2))
	wantBudget(t, b, 1000, 0, 0, 0, 0, 1)
	wantFault(t, b.Give(2), "give", 2, api.ErrNone)
	wantFault(t, b.Give(2), "give", 2, api.ErrNone)
	wantBudget(t, b, 1000, 0, 0, 0, 0, 1)
	done(t, b.Give(4))
	wantFault(t, b.Give(4), "give", 4, api.ErrNone)
	wantBudget(t, b, 1000)
	// What was given back has room again.
	done(t, b.Take(4))
	wantBudget(t, b, 1000, 0, 0, 0, 0, 1)
}

// 8.5: Fill is Take as often as most says, as long as there is room.
func TestFill(t *testing.T) {
	for _, limit := range []int{1, 31, 32, 33, 63, 64, 100, 1000, 8191, 8192, 20000, 100000} {
		for class, size := range sizes {
			room := limit / size
			for _, most := range []int{1, 2, 3, room - 1, room, room + 1, 9, math.MaxInt} {
				b := budget(t, limit)
				want := min(max(most, 0), room)
				if got := b.Fill(class, most); got != want {
					t.Errorf("of %d: Fill(%d, %d) is %d, want %d", limit, class, most, got, want)
				}
				var counts [slab.Classes]int
				counts[class] = want
				wantBudget(t, b, limit, counts[:]...)
				if got := b.Fill(class, math.MaxInt); got != room-want {
					t.Errorf("of %d: %d more of class %d, want %d", limit, got, class, room-want)
				}
			}
		}
	}
}

// 8.5: Drain is Give as often as most says, as long as there is a thing of the class.
func TestDrain(t *testing.T) {
	for class := range sizes {
		for _, there := range []int{0, 1, 2, 5} {
			for _, most := range []int{1, 2, 4, 5, 6, math.MaxInt} {
				b := budget(t, api.MaxNum)
				other := (class + 1) % slab.Classes
				if b.Fill(class, there) != there || b.Fill(other, 3) != 3 {
					t.Fatal("no room")
				}
				want := min(there, most)
				if got := b.Drain(class, most); got != want {
					t.Errorf("of %d things: Drain(%d, %d) is %d", there, class, most, got)
				}
				var counts [slab.Classes]int
				counts[class], counts[other] = there-want, 3
				wantBudget(t, b, api.MaxNum, counts[:]...)
			}
		}
	}
}

// 8.5: with a most below 1 nothing is done.
func TestNoTimes(t *testing.T) {
	for _, most := range noTimes {
		b := budget(t, 1000)
		for class := range 3 {
			done(t, b.Take(class))
		}
		for class := range slab.Classes {
			if b.Fill(class, most) != 0 || b.Drain(class, most) != 0 {
				t.Errorf("something was done %d times", most)
			}
			n := slab.Many(most, class, func(int) error {
				t.Errorf("called, though %d times", most)
				return nil
			})
			if n != 0 || slab.Many(most, class, nil) != 0 {
				t.Errorf("Many of %d is %d", most, n)
			}
		}
		wantBudget(t, b, 1000, 1, 1, 1)
	}
}

// 8.5: Many hands the class to any do, as often as n says, up to the first error, and not again behind it.
func TestMany(t *testing.T) {
	classes := append([]int{0, 1, 4, 8, 100}, noClasses...)
	for _, class := range classes {
		for _, n := range []int{0, 1, 2, 3, 10, 1000} {
			for _, good := range []int{0, 1, 2, 3, 9, 10, 11, 999, 1000, 1001} {
				calls := 0
				got := slab.Many(n, class, func(c int) error {
					if c != class {
						t.Errorf("do is handed %d, want %d", c, class)
					}
					calls++
					if calls > good {
						return errors.New("enough")
					}
					return nil
				})
				if got != min(n, good) || calls != min(n, good+1) {
					t.Errorf("Many(%d), of which %d are good, is %d, behind %d calls", n, good, got, calls)
				}
			}
		}
	}
}

// 8.5: a do that has an error once, and none behind it, is not asked again.
func TestManyFirst(t *testing.T) {
	calls := 0
	n := slab.Many(10, 3, func(int) error {
		calls++
		if calls == 4 {
			return trouble.New("once", 4, api.ErrState)
		}
		return nil
	})
	if n != 3 || calls != 4 {
		t.Errorf("%d, behind %d calls", n, calls)
	}
}

// 8.5: of a budget's own methods Many is Fill and Drain.
func TestManyMethods(t *testing.T) {
	a, b := budget(t, 1000), budget(t, 1000)
	next := source(1)
	for range 2000 {
		class, most := next(slab.Classes+2)-1, next(12)-1
		if next(2) == 0 {
			if x, y := a.Fill(class, most), slab.Many(most, class, b.Take); x != y {
				t.Errorf("Fill(%d, %d) is %d, Many %d", class, most, x, y)
			}
		} else if x, y := a.Drain(class, most), slab.Many(most, class, b.Give); x != y {
			t.Errorf("Drain(%d, %d) is %d, Many %d", class, most, x, y)
		}
		if *a != *b {
			t.Fatalf("%v and %v", a, b)
		}
	}
}

// P0: Many does not panic, though what it is handed does; what was done ahead of that is told.
func TestManyPanics(t *testing.T) {
	if n := slab.Many(3, 1, nil); n != 0 {
		t.Errorf("of no do: %d", n)
	}
	calls := 0
	n := slab.Many(5, 1, func(int) error {
		calls++
		if calls == 3 {
			panic("do")
		}
		return nil
	})
	if n != 2 || calls != 3 {
		t.Errorf("%d, behind %d calls", n, calls)
	}
}

// model is a budget by the chapter's words alone: its things, one by one.
type model struct {
	limit int
	l     []int
}

func (m *model) used() int {
	sum := 0
	for _, class := range m.l {
		sum += sizes[class]
	}
	return sum
}

func (m *model) counts() []int {
	counts := make([]int, len(sizes))
	for _, class := range m.l {
		counts[class]++
	}
	return counts
}

func (m *model) take(class int) api.Code {
	if class < 0 || class >= len(sizes) {
		return api.ErrRange
	}
	if m.used()+sizes[class] > m.limit {
		return api.ErrFull
	}
	m.l = append(m.l, class)
	return api.OK
}

func (m *model) give(class int) api.Code {
	if class < 0 || class >= len(sizes) {
		return api.ErrRange
	}
	i := slices.Index(m.l, class)
	if i < 0 {
		return api.ErrNone
	}
	m.l = slices.Delete(m.l, i, i+1)
	return api.OK
}

// often is how often a deed of the model was done.
func often(most, class int, do func(int) api.Code) int {
	n := 0
	for n < most && do(class) == api.OK {
		n++
	}
	return n
}

// step does the same to a budget and its model, and holds what is answered against each other.
func step(t *testing.T, b *slab.Budget, m *model, kind, class, most int) {
	t.Helper()
	switch kind {
	case 0:
		if got, want := trouble.Of(b.Take(class)), m.take(class); got != want {
			t.Errorf("Take(%d): code %d, want %d", class, got, want)
		}
	case 1:
		if got, want := trouble.Of(b.Give(class)), m.give(class); got != want {
			t.Errorf("Give(%d): code %d, want %d", class, got, want)
		}
	case 2:
		if got, want := b.Fill(class, most), often(most, class, m.take); got != want {
			t.Errorf("Fill(%d, %d) is %d, want %d", class, most, got, want)
		}
	default:
		if got, want := b.Drain(class, most), often(most, class, m.give); got != want {
			t.Errorf("Drain(%d, %d) is %d, want %d", class, most, got, want)
		}
	}
	if b.Used() > b.Limit() || b.Left() < 0 || b.Used() < 0 {
		t.Errorf("%d of %d are taken, %d left", b.Used(), b.Limit(), b.Left())
	}
}

// 8.2, 8.4, 8.5, 8.6 and P9: whatever is done, a budget tells what its things are, and never more is taken than there is.
func TestRuns(t *testing.T) {
	next := source(2)
	for _, limit := range []int{1, 31, 32, 33, 64, 100, 255, 1000, 8191, 8192, 8193, 30000} {
		b, m := budget(t, limit), &model{limit: limit}
		for range 1500 {
			step(t, b, m, next(4), next(slab.Classes+2)-1, next(14)-2)
			wantBudget(t, b, limit, m.counts()...)
		}
	}
}

// 8.6: a thing has room in what its class takes, and takes less than twice its bytes, from the least ones on that more than half fill the least class; those below take that one whole.
func TestLessThanTwice(t *testing.T) {
	for n := 0; n <= 8192; n++ {
		size := slab.Size(slab.Class(n))
		if size < n {
			t.Errorf("%d bytes have no room in %d", n, size)
		}
		if n > slab.Least/2 && size >= 2*n {
			t.Errorf("%d bytes take %d", n, size)
		}
		if n <= slab.Least/2 && size != slab.Least {
			t.Errorf("%d bytes take %d", n, size)
		}
	}
}

// 8.6 and P9: at the greatest limit nothing comes round: a budget that is full tells it.
func TestGreatest(t *testing.T) {
	b := budget(t, api.MaxNum)
	most := api.MaxNum / 8192
	if n := b.Fill(8, math.MaxInt); n != most {
		t.Errorf("%d things, want %d", n, most)
	}
	wantBudget(t, b, api.MaxNum, 0, 0, 0, 0, 0, 0, 0, 0, most)
	for class, size := range sizes {
		wantFault(t, b.Take(class), "take", size, api.ErrFull)
	}
	wantBudget(t, b, api.MaxNum, 0, 0, 0, 0, 0, 0, 0, 0, most)
	done(t, b.Give(8))
	if n := b.Fill(0, math.MaxInt); n != 256 || b.Left() != 0 {
		t.Errorf("%d things, %d left", n, b.Left())
	}
	if n := b.Drain(8, math.MaxInt); n != most-1 {
		t.Errorf("%d things, want %d", n, most-1)
	}
	wantBudget(t, b, api.MaxNum, 256)
}

// P10: what a budget answers hangs on the calls on it alone, not on those on another one.
func TestApart(t *testing.T) {
	a, b := budget(t, 100), budget(t, 100)
	done(t, a.Take(1))
	wantBudget(t, b, 100)
	done(t, b.Take(0))
	wantBudget(t, a, 100, 0, 1)
	done(t, a.Give(1))
	wantFault(t, a.Give(0), "give", 0, api.ErrNone)
	wantBudget(t, b, 100, 1)
	wantBudget(t, a, 100)
}

// P10 and P2: asking changes nothing.
func TestAskingChangesNothing(t *testing.T) {
	b := budget(t, 1000)
	b.Fill(1, 3)
	was := *b
	for range 3 {
		for n := -1; n < 10; n++ {
			b.Count(n)
			b.Fits(n * 100)
			slab.Size(n)
			slab.Class(n)
		}
		b.Limit()
		b.Used()
		b.Left()
	}
	if *b != was {
		t.Errorf("%v was %v", *b, was)
	}
}

// P0: no numbers whatever have a call panic, and no calls have more taken than there is.
func FuzzBudget(f *testing.F) {
	f.Add(100, []byte{0, 1, 0, 0, 1, 0, 2, 0, 9, 1, 2, 0, 3, 1, 3})
	f.Add(0, []byte{})
	f.Add(31, []byte{0, 0, 0, 2, 8, 255, 3, 9, 128})
	f.Add(math.MaxInt, []byte{0})
	f.Fuzz(func(t *testing.T, limit int, acts []byte) {
		slab.Size(limit)
		slab.Class(limit)
		b, err := slab.New(limit)
		if (err == nil) != (limit >= 1 && limit <= api.MaxNum) || (err == nil) != (b != nil) {
			t.Fatalf("New(%d) = %v, %v", limit, b, err)
		}
		if err != nil {
			return
		}
		b.Fits(limit)
		m := &model{limit: limit}
		for ; len(acts) >= 3; acts = acts[3:] {
			step(t, b, m, int(acts[0]%4), int(int8(acts[1])), int(int8(acts[2])))
		}
		wantBudget(t, b, limit, m.counts()...)
	})
}
