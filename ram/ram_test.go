package ram_test

import (
	"bytes"
	"cmp"
	"math"
	"math/rand/v2"
	"slices"
	"strconv"
	"strings"
	"testing"

	"buttery/api"
	"buttery/item"
	"buttery/ram"
	"buttery/trouble"
)

// The calls with the signatures that the chapter lists.
var (
	_ func(int) (*ram.Ram, error)                         = ram.New
	_ func(*ram.Ram) int                                  = (*ram.Ram).Len
	_ func(*ram.Ram) int                                  = (*ram.Ram).Used
	_ func(*ram.Ram) int                                  = (*ram.Ram).Limit
	_ func(*ram.Ram, api.Entry) bool                      = (*ram.Ram).Fits
	_ func(*ram.Ram, string, int) (api.Entry, bool)       = (*ram.Ram).Get
	_ func(*ram.Ram, string) (api.Entry, bool)            = (*ram.Ram).Peek
	_ func(*ram.Ram, api.Entry, int) ([]api.Entry, error) = (*ram.Ram).Set
	_ func(*ram.Ram, string) (api.Entry, bool)            = (*ram.Ram).Drop
	_ func(*ram.Ram, int) int                             = (*ram.Ram).Sweep
	_ func(*ram.Ram) []api.Entry                          = (*ram.Ram).All
	_ [ram.MaxRam]struct{}                                = [1 << 20]struct{}{}
)

// classes is how many bytes the things of each class take.
var classes = []int{32, 64, 128, 256, 512, 1024, 2048, 4096, 8192}

// numberSize is how many bytes a number takes, by chapter 2: one for each seven bits.
func numberSize(n int) int {
	size := 1
	for ; n >= 128; n /= 128 {
		size++
	}
	return size
}

// sizeOf is how many bytes an entry has, by chapter 6.
func sizeOf(x api.Entry) int {
	return numberSize(len(x.Key)) + len(x.Key) + numberSize(x.Version) + numberSize(x.AsOf) + numberSize(x.Ends) + numberSize(len(x.Value)) + len(x.Value)
}

// takes is how many bytes an entry takes, by the chapter's words.
func takes(x api.Entry) int {
	for _, size := range classes {
		if sizeOf(x) <= size {
			return size
		}
	}
	return math.MaxInt
}

// ended tells whether an entry has ended.
func ended(x api.Entry, now int) bool { return x.Ends != 0 && x.Ends <= now }

// model is a tier by the chapter's words alone: its entries, the one that was used last ahead.
type model struct {
	limit int
	l     []api.Entry
}

func (m *model) find(key string) int {
	return slices.IndexFunc(m.l, func(x api.Entry) bool { return x.Key == key })
}

func (m *model) used() int {
	sum := 0
	for _, x := range m.l {
		sum += takes(x)
	}
	return sum
}

func (m *model) peek(key string) (api.Entry, bool) {
	i := m.find(key)
	if i < 0 {
		return api.Entry{}, false
	}
	return m.l[i], true
}

func (m *model) drop(key string) (api.Entry, bool) {
	x, ok := m.peek(key)
	if ok {
		i := m.find(key)
		m.l = slices.Delete(m.l, i, i+1)
	}
	return x, ok
}

func (m *model) use(x api.Entry) { m.l = slices.Insert(m.l, 0, x) }

func (m *model) get(key string, now int) (api.Entry, bool) {
	x, ok := m.drop(key)
	if !ok || ended(x, now) {
		return api.Entry{}, false
	}
	m.use(x)
	return x, true
}

func (m *model) set(x api.Entry, now int) ([]api.Entry, api.Code) {
	if err := item.Check(x); err != nil {
		return nil, trouble.Of(err)
	}
	if ended(x, now) {
		return nil, api.ErrStale
	}
	if takes(x) > m.limit {
		return nil, api.ErrSize
	}
	m.drop(x.Key)
	var gone []api.Entry
	for m.used()+takes(x) > m.limit {
		last := m.l[len(m.l)-1]
		m.drop(last.Key)
		if !ended(last, now) {
			gone = append(gone, last)
		}
	}
	m.use(x)
	return gone, api.OK
}

func (m *model) sweep(now int) int {
	n := len(m.l)
	m.l = slices.DeleteFunc(m.l, func(x api.Entry) bool { return ended(x, now) })
	return n - len(m.l)
}

func (m *model) all() []api.Entry {
	l := slices.Clone(m.l)
	slices.SortStableFunc(l, func(a, b api.Entry) int { return cmp.Compare(takes(a), takes(b)) })
	return l
}

// one is an entry that never ends, with a value of so many bytes.
func one(key string, n int) api.Entry {
	return api.Entry{Key: key, Version: 1, AsOf: 1, Value: bytes.Repeat([]byte{byte(n) + 1}, n)}
}

// till is an entry that ends, with a value of so many bytes.
func till(key string, n, ends int) api.Entry {
	x := one(key, n)
	x.Ends = ends
	return x
}

// sized is an entry of so many bytes in all, if there is such a one, else of one or a few less.
func sized(key string, size int) api.Entry {
	x := one(key, max(size-len(key)-5, 0))
	for sizeOf(x) > size && len(x.Value) > 0 {
		x.Value = x.Value[1:]
	}
	return x
}

// greatest is the entry that has the most bytes of all that may be.
func greatest() api.Entry {
	return api.Entry{Key: strings.Repeat("k", api.MaxKey), Version: api.MaxNum, AsOf: api.MaxNum, Ends: api.MaxNum, Value: make([]byte, api.MaxValue)}
}

// tier is a new tier of so many bytes.
func tier(t *testing.T, limit int) *ram.Ram {
	t.Helper()
	r, err := ram.New(limit)
	if err != nil || r == nil {
		t.Fatalf("New(%d): %v, %v", limit, r, err)
	}
	return r
}

// with is a new tier with entries, none of which has to go.
func with(t *testing.T, limit int, l ...api.Entry) *ram.Ram {
	t.Helper()
	r := tier(t, limit)
	for _, x := range l {
		set(t, r, x, 0)
	}
	return r
}

// set sets an entry that has room, for which these go.
func set(t *testing.T, r *ram.Ram, x api.Entry, now int, gone ...string) {
	t.Helper()
	l, err := r.Set(x, now)
	if err != nil {
		t.Fatalf("Set(%q): %v", x.Key, err)
	}
	if got := keys(l); !slices.Equal(got, gone) {
		t.Fatalf("Set(%q): %q went, want %q", x.Key, got, gone)
	}
}

// keys is the keys of entries.
func keys(l []api.Entry) []string {
	var out []string
	for _, x := range l {
		out = append(out, x.Key)
	}
	return out
}

// holds fails if a tier has not just the entries of these keys, in the order of All.
func holds(t *testing.T, r *ram.Ram, want ...string) {
	t.Helper()
	if got := keys(r.All()); !slices.Equal(got, want) {
		t.Fatalf("All: %q, want %q", got, want)
	}
	if r.Len() != len(want) {
		t.Fatalf("Len: %d, want %d", r.Len(), len(want))
	}
}

// is fails if a call's entry is not the one that it should be.
func is(t *testing.T, call string, got api.Entry, ok bool, want api.Entry) {
	t.Helper()
	if !ok || !item.Same(got, want) {
		t.Fatalf("%s: %v, %v, want %v", call, got, ok, want)
	}
}

// isNone fails if a call does not say that there is nothing, or answers anything beside that.
func isNone(t *testing.T, call string, got api.Entry, ok bool) {
	t.Helper()
	if ok || got.Value != nil || !item.Same(got, api.Entry{}) {
		t.Fatalf("%s: %v, %v, want none", call, got, ok)
	}
}

// same fails if two lists of entries are unlike.
func same(t *testing.T, call string, got, want []api.Entry) {
	t.Helper()
	if !slices.EqualFunc(got, want, item.Same) {
		t.Fatalf("%s: %q, want %q", call, keys(got), keys(want))
	}
}

// 11.1: the limits that may be, at their edges and between: such a tier has no entries, and takes nothing.
func TestNew(t *testing.T) {
	for _, limit := range []int{1, 2, 31, 32, 33, 63, 64, 100, 8191, 8192, 65536, ram.MaxRam - 1, ram.MaxRam} {
		r := tier(t, limit)
		if r.Len() != 0 || r.Used() != 0 || r.Limit() != limit {
			t.Errorf("New(%d): %d entries take %d of %d", limit, r.Len(), r.Used(), r.Limit())
		}
	}
	if ram.MaxRam != 1048576 {
		t.Error(ram.MaxRam)
	}
}

// 11.1: the limits that may not be: no tier beside the error.
func TestNewRefuses(t *testing.T) {
	for _, limit := range []int{0, -1, -32, -ram.MaxRam, math.MinInt, ram.MaxRam + 1, 2 * ram.MaxRam, api.MaxNum, math.MaxInt} {
		r, err := ram.New(limit)
		if r != nil || trouble.Of(err) != api.ErrRange {
			t.Errorf("New(%d): %v, %v", limit, r, err)
		}
	}
}

// edge is an entry at an edge of its class, and how many bytes it takes.
type edge struct {
	x     api.Entry
	takes int
}

// edges is the entries with the least and the most bytes of each class.
func edges() []edge {
	var l []edge
	for i, size := range classes {
		least, most := sized("a", size/2+1), sized("a", min(size, 4096))
		if i == 0 {
			least = one("a", 0)
		}
		if size == 8192 {
			most = greatest()
		}
		l = append(l, edge{least, size}, edge{most, size})
	}
	return l
}

// The tests' entries are at the edges that they should be at.
func TestEdges(t *testing.T) {
	want := []int{6, 32, 33, 64, 65, 128, 129, 256, 257, 512, 513, 1024, 1025, 2048, 2049, 4096, 4097, 4157}
	for i, e := range edges() {
		if item.Size(e.x) != want[i] || sizeOf(e.x) != want[i] || item.Check(e.x) != nil {
			t.Errorf("%d: %d bytes, want %d: %v", i, item.Size(e.x), want[i], item.Check(e.x))
		}
	}
}

// 11.1: how many entries there are, and how many bytes they take, at each class's edges; the limit stays.
func TestLenAndUsed(t *testing.T) {
	r := tier(t, 40000)
	sum := 0
	for i, e := range edges() {
		e.x.Key = strings.Repeat(string(rune('a'+i)), len(e.x.Key))
		set(t, r, e.x, 0)
		sum += e.takes
		if r.Len() != i+1 || r.Used() != sum || r.Limit() != 40000 {
			t.Fatalf("%d: %d entries take %d of %d, want %d", i, r.Len(), r.Used(), r.Limit(), sum)
		}
	}
	for i, e := range edges() {
		r.Drop(strings.Repeat(string(rune('a'+i)), len(e.x.Key)))
		sum -= e.takes
		if r.Len() != len(edges())-i-1 || r.Used() != sum || r.Limit() != 40000 {
			t.Fatalf("%d less: %d entries take %d of %d, want %d", i, r.Len(), r.Used(), r.Limit(), sum)
		}
	}
}

// 11.1: the greatest tier has room for 32768 of the least entries; the next one has the first go.
func TestGreatestTier(t *testing.T) {
	r := tier(t, ram.MaxRam)
	for i := range ram.MaxRam / 32 {
		set(t, r, one(strconv.Itoa(i), 0), 0)
	}
	if r.Len() != 32768 || r.Used() != ram.MaxRam {
		t.Fatalf("%d entries take %d", r.Len(), r.Used())
	}
	set(t, r, one("more", 0), 0, "0")
	set(t, r, sized("most", 128), 0, "1", "2", "3", "4")
	if r.Len() != 32765 || r.Used() != ram.MaxRam {
		t.Fatalf("%d entries take %d", r.Len(), r.Used())
	}
	x, ok := r.Get("32767", 0)
	is(t, "Get", x, ok, one("32767", 0))
}

// 11.1, 11.2, 11.4: a limit below the least class has room for nothing.
func TestTooLittle(t *testing.T) {
	for _, limit := range []int{1, 2, 6, 31} {
		r := tier(t, limit)
		if r.Fits(one("a", 0)) {
			t.Errorf("%d fits", limit)
		}
		if l, err := r.Set(one("a", 0), 0); l != nil || trouble.Of(err) != api.ErrSize {
			t.Errorf("%d: %v, %v", limit, l, err)
		}
		holds(t, r)
		x, ok := r.Get("a", 0)
		isNone(t, "Get", x, ok)
		if r.Sweep(9) != 0 || r.Used() != 0 {
			t.Errorf("%d: used %d", limit, r.Used())
		}
	}
}

// 11.2, 11.4: an entry fits, and can be set, if it takes just the limit, or less, but not if it takes more.
func TestFits(t *testing.T) {
	for i, e := range edges() {
		for _, limit := range []int{1, 31, 32, e.takes / 2, e.takes - 1, e.takes, e.takes + 1, 2 * e.takes, ram.MaxRam} {
			r := tier(t, limit)
			if got := r.Fits(e.x); got != (e.takes <= limit) {
				t.Errorf("%d in %d: %v", i, limit, got)
			}
			l, err := r.Set(e.x, 0)
			if l != nil || (err == nil) != (e.takes <= limit) || err != nil && trouble.Of(err) != api.ErrSize {
				t.Errorf("%d in %d: %v, %v", i, limit, l, err)
			}
			if err != nil && r.Len() != 0 || err == nil && r.Used() != e.takes {
				t.Errorf("%d in %d: %d entries take %d", i, limit, r.Len(), r.Used())
			}
		}
	}
}

// 11.2: whatever is there, an entry fits that takes at most the limit; an entry that has ended does, too; asking changes nothing.
func TestFitsOfFull(t *testing.T) {
	r := with(t, 100, one("a", 0), one("b", 40))
	for _, x := range []api.Entry{one("c", 0), sized("c", 64), till("c", 1, 1), one("a", 50)} {
		if !r.Fits(x) {
			t.Errorf("%d bytes don't fit", sizeOf(x))
		}
	}
	for _, x := range []api.Entry{sized("c", 65), sized("a", 65), greatest()} {
		if r.Fits(x) {
			t.Errorf("%d bytes fit", sizeOf(x))
		}
	}
	holds(t, r, "a", "b")
	set(t, r, one("c", 0), 0, "a")
}

// 11.3: what is got is the key's entry, and it is used: it goes last.
func TestGet(t *testing.T) {
	a := api.Entry{Key: "a", Version: 3, AsOf: 5, Ends: 9, Value: []byte("ab")}
	r := with(t, 96, a, one("b", 1), one("c", 2))
	x, ok := r.Get("a", 8)
	is(t, "Get a", x, ok, a)
	holds(t, r, "a", "c", "b")
	x, ok = r.Get("c", 8)
	is(t, "Get c", x, ok, one("c", 2))
	holds(t, r, "c", "a", "b")
	if r.Used() != 96 {
		t.Error(r.Used())
	}
	set(t, r, one("d", 0), 8, "b")
	set(t, r, one("e", 0), 8, "a")
	set(t, r, one("f", 0), 8, "c")
}

// 11.3: of a key that there is not, or that may not be, nothing is got or peeked at, and nothing changes.
func TestGetNone(t *testing.T) {
	empty := tier(t, 100)
	full := with(t, 100, one("a", 0), one("aa", 0), one("A", 0))
	for _, key := range []string{"b", "", "a ", "aaa", "a\x00", "\xff", strings.Repeat("a", 40), strings.Repeat("a", 41), strings.Repeat("a", 5000)} {
		for _, r := range []*ram.Ram{empty, full} {
			x, ok := r.Get(key, 0)
			isNone(t, "Get", x, ok)
			x, ok = r.Peek(key)
			isNone(t, "Peek", x, ok)
			x, ok = r.Drop(key)
			isNone(t, "Drop", x, ok)
		}
	}
	holds(t, empty)
	holds(t, full, "A", "aa", "a")
}

// 11.3: an entry that ends is got as long as the time is below that; at it, and behind it, it is gone.
func TestGetEnded(t *testing.T) {
	for _, now := range []int{math.MinInt, -1, 0, 1, 8, 9, 10, api.MaxNum, math.MaxInt} {
		r := with(t, 100, till("b", 40, 9), till("a", 3, 0))
		x, ok := r.Get("a", now)
		is(t, "Get a", x, ok, one("a", 3))
		x, ok = r.Get("b", now)
		if now < 9 {
			is(t, "Get b", x, ok, till("b", 40, 9))
			holds(t, r, "a", "b")
			continue
		}
		isNone(t, "Get b", x, ok)
		holds(t, r, "a")
		x, ok = r.Peek("b")
		isNone(t, "Peek b", x, ok)
		x, ok = r.Get("b", 0)
		isNone(t, "Get b as of earlier", x, ok)
		if r.Used() != 32 {
			t.Errorf("at %d: %d", now, r.Used())
		}
		set(t, r, one("c", 40), now)
	}
}

// 11.3: what has ended can be peeked at, and stays; so does what has not.
func TestPeek(t *testing.T) {
	r := with(t, 100, till("a", 1, 1), one("b", 2), till("c", 3, 9))
	for range 3 {
		x, ok := r.Peek("a")
		is(t, "Peek a", x, ok, till("a", 1, 1))
		x, ok = r.Peek("b")
		is(t, "Peek b", x, ok, one("b", 2))
	}
	holds(t, r, "c", "b", "a")
}

// 11.3: what is peeked at is not used: it goes as if it weren't.
func TestPeekUsesNothing(t *testing.T) {
	r := with(t, 96, one("a", 1), one("b", 2), one("c", 3))
	r.Peek("a")
	set(t, r, one("d", 0), 0, "a")
	r.Peek("b")
	set(t, r, one("e", 0), 0, "b")
}

// bad is entries that may not be, each for one cause.
func bad() []api.Entry {
	key, long, version, asOf, ends, value := one("a", 1), one("a", 1), one("a", 1), one("a", 1), one("a", 1), one("a", 1)
	key.Key, long.Key = "", strings.Repeat("a", 41)
	version.Version, version.AsOf = 0, 0
	asOf.Version = 2
	ends.Ends = -1
	value.Value = make([]byte, api.MaxValue+1)
	return []api.Entry{key, long, version, asOf, ends, value}
}

// 11.4: what may not be has item.Check's error, link by link, and changes nothing.
func TestSetBad(t *testing.T) {
	for _, limit := range []int{1, 100, ram.MaxRam} {
		r := tier(t, limit)
		if limit > 1 {
			set(t, r, one("a", 0), 0)
		}
		for i, x := range bad() {
			l, err := r.Set(x, 0)
			if l != nil || err == nil || trouble.Text(err) != trouble.Text(item.Check(x)) || trouble.Of(err) != trouble.Of(item.Check(x)) {
				t.Errorf("%d in %d: %v, %v", i, limit, l, err)
			}
		}
		if limit > 1 {
			holds(t, r, "a")
			x, ok := r.Peek("a")
			is(t, "Peek", x, ok, one("a", 0))
		}
	}
}

// 11.4: what has ended is refused, at its end too, and changes nothing, not even the key's entry.
func TestSetEnded(t *testing.T) {
	r := with(t, 100, one("a", 1), one("b", 2))
	for _, now := range []int{9, 10, api.MaxNum, math.MaxInt} {
		for _, key := range []string{"a", "c"} {
			if l, err := r.Set(till(key, 40, 9), now); l != nil || trouble.Of(err) != api.ErrStale {
				t.Errorf("%q at %d: %v, %v", key, now, l, err)
			}
		}
	}
	holds(t, r, "b", "a")
	x, ok := r.Peek("a")
	is(t, "Peek", x, ok, one("a", 1))
	for _, now := range []int{8, 0, -1, math.MinInt} {
		set(t, r, till("a", 3, 9), now)
	}
	x, ok = r.Peek("a")
	is(t, "Peek", x, ok, till("a", 3, 9))
}

// 11.4: what takes more than the limit is refused, and changes nothing, not even the key's entry, nor what has ended.
func TestSetTooLarge(t *testing.T) {
	r := with(t, 100, till("a", 1, 5), one("b", 2))
	for _, x := range []api.Entry{sized("a", 65), sized("b", 128), sized("c", 129), sized("a", 4096), greatest()} {
		if l, err := r.Set(x, 7); l != nil || trouble.Of(err) != api.ErrSize {
			t.Errorf("%q: %v, %v", x.Key, l, err)
		}
	}
	holds(t, r, "b", "a")
	x, ok := r.Peek("a")
	is(t, "Peek", x, ok, till("a", 1, 5))
}

// 11.4, R6: of several causes that one is answered that is named first.
func TestSetFirstCause(t *testing.T) {
	r := tier(t, 32)
	for i, x := range bad() {
		if x.Ends == 0 {
			x.Ends = 1
		}
		if len(x.Value) < 100 {
			x.Value = make([]byte, 100)
		}
		if _, err := r.Set(x, 5); trouble.Of(err) != trouble.Of(item.Check(x)) {
			t.Errorf("%d: %v", i, err)
		}
	}
	if _, err := r.Set(till("a", 100, 5), 5); trouble.Of(err) != api.ErrStale {
		t.Error(err)
	}
	if _, err := r.Set(till("a", 100, 6), 5); trouble.Of(err) != api.ErrSize {
		t.Error(err)
	}
	holds(t, r)
}

// 11.4: what is set is there, just so, and used.
func TestSet(t *testing.T) {
	l := []api.Entry{
		{Key: "a", Version: 1, AsOf: 1},
		{Key: "b", Version: 3, AsOf: 5, Ends: 9, Value: []byte("ab")},
		{Key: "\x00\xff", Version: 7, AsOf: api.MaxNum, Value: []byte{0, 255}},
		greatest(),
	}
	r := tier(t, 10000)
	for i, x := range l {
		set(t, r, x, 0)
		for _, y := range l[:i+1] {
			got, ok := r.Peek(y.Key)
			is(t, "Peek", got, ok, y)
		}
	}
	for _, x := range l {
		got, ok := r.Get(x.Key, 8)
		is(t, "Get", got, ok, x)
	}
}

// 11.4: the key's entry that there was is gone, whatever its class, and is not told; the new one is used.
func TestSetAgain(t *testing.T) {
	for _, old := range classes[:8] {
		for _, size := range classes[:8] {
			r := with(t, old+size+32, sized("a", old), one("b", 0))
			x := sized("a", size)
			x.Version, x.AsOf = 2, 3
			set(t, r, x, 0)
			if r.Len() != 2 || r.Used() != size+32 {
				t.Fatalf("%d, then %d: %d entries take %d", old, size, r.Len(), r.Used())
			}
			got, ok := r.Peek("a")
			is(t, "Peek", got, ok, x)
			set(t, r, sized("c", old), 0)
			set(t, r, one("d", 0), 0, "b")
		}
	}
}

// 11.4: the room of the key's own entry is there for the new one: none goes for it.
func TestSetAgainInFull(t *testing.T) {
	r := with(t, 96, one("a", 0), one("b", 0), one("c", 0))
	set(t, r, one("a", 9), 0)
	holds(t, r, "a", "c", "b")
	set(t, r, sized("b", 64), 0, "c")
	holds(t, r, "a", "b")
	set(t, r, one("b", 0), 0)
	set(t, r, one("c", 0), 0)
	holds(t, r, "c", "b", "a")
	set(t, r, sized("b", 64), 0, "a")
	holds(t, r, "c", "b")
}

// 11.4: the key's entry that had ended, and that which it was as of later: both are just replaced.
func TestSetAgainAnyhow(t *testing.T) {
	late := one("b", 1)
	late.Version, late.AsOf = 9, 9
	r := with(t, 64, till("a", 1, 5), late)
	set(t, r, one("a", 2), 7)
	set(t, r, one("b", 2), 7)
	holds(t, r, "b", "a")
	x, ok := r.Get("b", 7)
	is(t, "Get", x, ok, one("b", 2))
}

// 11.4: room is made by one entry, if that is enough, and by no more.
func TestRoomByOne(t *testing.T) {
	r := with(t, 160, one("a", 0), one("b", 40), one("c", 1))
	set(t, r, one("d", 0), 0)
	set(t, r, one("e", 0), 0, "a")
	set(t, r, one("f", 0), 0, "b")
	set(t, r, one("g", 0), 0)
	if r.Used() != 160 {
		t.Error(r.Used())
	}
	holds(t, r, "g", "f", "e", "d", "c")
}

// 11.4: room is made by as many as it takes, told in the order in which they were used, across the classes.
func TestRoomByMany(t *testing.T) {
	r := with(t, 256, one("a", 40), one("b", 0), one("c", 40), one("d", 0), one("e", 40))
	r.Get("a", 0)
	set(t, r, sized("f", 128), 0, "b", "c", "d")
	holds(t, r, "a", "e", "f")
	set(t, r, sized("g", 256), 0, "e", "a", "f")
	holds(t, r, "g")
	if r.Used() != 256 {
		t.Error(r.Used())
	}
	set(t, r, one("h", 0), 0, "g")
}

// 11.4: what is told is what went, just as it was.
func TestToldWhole(t *testing.T) {
	a := api.Entry{Key: "a", Version: 3, AsOf: 5, Ends: 9, Value: []byte("ab")}
	b := api.Entry{Key: "b", Version: 7, AsOf: 7}
	r := with(t, 64, a, b)
	l, err := r.Set(sized("c", 64), 8)
	if err != nil {
		t.Fatal(err)
	}
	same(t, "told", l, []api.Entry{a, b})
}

// 11.4: of those that went for room those that had ended are not told; those are gone in their turn alone, too.
func TestRoomByEnded(t *testing.T) {
	l := []api.Entry{till("a", 0, 5), one("b", 0), till("c", 0, 6), till("d", 0, 7), one("e", 0), till("f", 0, 5), one("g", 0), one("h", 0)}
	r := with(t, 256, l...)
	set(t, r, one("i", 0), 6)
	holds(t, r, "i", "h", "g", "f", "e", "d", "c", "b")
	set(t, r, sized("j", 128), 6, "b", "d", "e")
	holds(t, r, "i", "h", "g", "f", "j")
	set(t, r, one("k", 0), 6)
	holds(t, r, "k", "i", "h", "g", "j")
	set(t, r, sized("l", 256), 0, "g", "h", "i", "j", "k")
	holds(t, r, "l")
}

// 11.4: room that only what has ended makes: none is told, and the list is empty.
func TestRoomByEndedAlone(t *testing.T) {
	r := with(t, 64, till("a", 0, 5), till("b", 0, 4))
	l, err := r.Set(sized("c", 64), 5)
	if err != nil || len(l) != 0 {
		t.Fatalf("%v, %v", l, err)
	}
	holds(t, r, "c")
}

// 11.5: what is dropped is answered, ended or not, and gone; others stay, in their order.
func TestDrop(t *testing.T) {
	b := till("b", 40, 1)
	r := with(t, 200, one("a", 1), b, one("c", 3))
	x, ok := r.Drop("b")
	is(t, "Drop b", x, ok, b)
	holds(t, r, "c", "a")
	if r.Used() != 64 {
		t.Error(r.Used())
	}
	x, ok = r.Drop("b")
	isNone(t, "Drop b again", x, ok)
	x, ok = r.Peek("b")
	isNone(t, "Peek b", x, ok)
	x, ok = r.Drop("c")
	is(t, "Drop c", x, ok, one("c", 3))
	x, ok = r.Drop("a")
	is(t, "Drop a", x, ok, one("a", 1))
	holds(t, r)
	x, ok = r.Drop("a")
	isNone(t, "Drop of none", x, ok)
	set(t, r, b, 0)
	x, ok = r.Drop("b")
	is(t, "Drop b at last", x, ok, b)
}

// 11.5: what was dropped left its room, and its turn.
func TestDropLeavesRoom(t *testing.T) {
	r := with(t, 96, one("a", 0), one("b", 0), one("c", 0))
	r.Drop("a")
	set(t, r, one("d", 0), 0)
	set(t, r, one("a", 0), 0, "b")
	set(t, r, sized("e", 64), 0, "c", "d")
	holds(t, r, "a", "e")
}

// 11.5: all that has ended is swept, whatever its class, and nothing else; what is left keeps its order.
func TestSweep(t *testing.T) {
	l := []api.Entry{till("a", 0, 5), one("b", 40), till("c", 100, 6), till("d", 0, 7), one("e", 0), till("f", 40, 5), till("g", 1000, 9)}
	for _, c := range []struct {
		now, swept int
		left       []string
	}{
		{math.MinInt, 0, []string{"e", "d", "a", "f", "b", "c", "g"}},
		{0, 0, []string{"e", "d", "a", "f", "b", "c", "g"}},
		{4, 0, []string{"e", "d", "a", "f", "b", "c", "g"}},
		{5, 2, []string{"e", "d", "b", "c", "g"}},
		{6, 3, []string{"e", "d", "b", "g"}},
		{7, 4, []string{"e", "b", "g"}},
		{9, 5, []string{"e", "b"}},
		{math.MaxInt, 5, []string{"e", "b"}},
	} {
		r := with(t, 4000, l...)
		if n := r.Sweep(c.now); n != c.swept {
			t.Errorf("at %d: %d swept, want %d", c.now, n, c.swept)
		}
		holds(t, r, c.left...)
		if n := r.Sweep(c.now); n != 0 {
			t.Errorf("at %d: %d swept again", c.now, n)
		}
		sum := 0
		for _, x := range r.All() {
			sum += takes(x)
		}
		if r.Used() != sum {
			t.Errorf("at %d: %d, want %d", c.now, r.Used(), sum)
		}
	}
}

// 11.5: a tier without entries has none to sweep, and one of which all have ended keeps none.
func TestSweepAllAndNone(t *testing.T) {
	r := tier(t, 100)
	if n := r.Sweep(5); n != 0 {
		t.Error(n)
	}
	for i := range 3 {
		set(t, r, till(strconv.Itoa(i), i, 5), 0)
	}
	if n := r.Sweep(5); n != 3 || r.Len() != 0 || r.Used() != 0 || len(r.All()) != 0 {
		t.Error(n, r.Len(), r.Used())
	}
	set(t, r, sized("a", 64), 5)
	holds(t, r, "a")
}

// 11.6: all entries are told by how much they take, not by how many bytes they have; of those that take as much the one that was used last is ahead.
func TestAll(t *testing.T) {
	r := tier(t, 4000)
	if l := r.All(); len(l) != 0 {
		t.Fatal(keys(l))
	}
	for _, x := range []api.Entry{sized("a", 64), sized("b", 10), sized("c", 33), sized("d", 32), sized("e", 1024), sized("f", 31), sized("g", 50)} {
		set(t, r, x, 0)
	}
	holds(t, r, "f", "d", "b", "g", "c", "a", "e")
	r.Get("a", 0)
	r.Get("b", 0)
	r.Peek("d")
	holds(t, r, "b", "f", "d", "a", "g", "c", "e")
	set(t, r, sized("f", 40), 0)
	holds(t, r, "b", "d", "f", "a", "g", "c", "e")
	same(t, "All", r.All()[:3], []api.Entry{sized("b", 10), sized("d", 32), sized("f", 40)})
}

// 11.5, 11.6: entries of all classes are told, and swept.
func TestAllClasses(t *testing.T) {
	r := tier(t, 40000)
	var want []string
	for i, e := range slices.Backward(edges()) {
		e.x.Key = strings.Repeat(string(rune('a'+i)), len(e.x.Key))
		e.x.Ends = 5
		set(t, r, e.x, 0)
		want = slices.Insert(want, 0, e.x.Key)
	}
	holds(t, r, want...)
	if n := r.Sweep(5); n != 2*len(classes) || r.Used() != 0 {
		t.Errorf("%d swept, %d taken", n, r.Used())
	}
	holds(t, r)
}

// 11.6: what has ended is told, too: it is there, till it is got or swept.
func TestAllEnded(t *testing.T) {
	r := with(t, 100, till("a", 0, 1), one("b", 0))
	r.Get("b", 5)
	holds(t, r, "b", "a")
}

// 11.1 to 11.4, the chapter's example: in 100 bytes a takes 32, b 64; a is used; c takes 32: b goes.
func TestExample(t *testing.T) {
	r := with(t, 100, one("a", 0), one("b", 40))
	if r.Used() != 96 {
		t.Error(r.Used())
	}
	r.Get("a", 0)
	set(t, r, one("c", 3), 0, "b")
	holds(t, r, "c", "a")
	if r.Used() != 64 {
		t.Error(r.Used())
	}
}

// walk is what a walk over a tier has: the tier, its model, the time, and keys.
type walk struct {
	t   *testing.T
	rnd *rand.Rand
	r   *ram.Ram
	m   *model
	now int
}

// newWalk is a walk over a new tier.
func newWalk(t *testing.T, limit int, seed uint64) *walk {
	t.Helper()
	return &walk{t: t, rnd: rand.New(rand.NewPCG(seed, uint64(limit))), r: tier(t, limit), m: &model{limit: limit}}
}

// key is one of some keys.
func (w *walk) key() string { return "k" + strconv.Itoa(w.rnd.IntN(60)) }

// entry is an entry of any class, which may have ended, or may not be.
func (w *walk) entry() api.Entry {
	x := sized(w.key(), w.rnd.IntN(16<<w.rnd.IntN(6))+1)
	x.Version = w.rnd.IntN(200)
	x.AsOf = x.Version + w.rnd.IntN(3)
	if w.rnd.IntN(2) == 0 {
		x.Ends = w.now + w.rnd.IntN(40) - 1
	}
	if w.rnd.IntN(50) == 0 {
		x = bad()[w.rnd.IntN(len(bad()))]
	}
	return x
}

// step does one thing to both, and holds their answers against each other.
func (w *walk) step() {
	w.t.Helper()
	switch w.rnd.IntN(20) {
	case 0, 1, 2, 3, 4, 5, 6, 7, 8, 9:
		w.set(w.entry())
	case 10, 11, 12, 13:
		key := w.key()
		x, ok := w.r.Get(key, w.now)
		want, wantOk := w.m.get(key, w.now)
		w.alike("Get", x, ok, want, wantOk)
	case 14, 15:
		key := w.key()
		x, ok := w.r.Peek(key)
		want, wantOk := w.m.peek(key)
		w.alike("Peek", x, ok, want, wantOk)
	case 16, 17:
		key := w.key()
		x, ok := w.r.Drop(key)
		want, wantOk := w.m.drop(key)
		w.alike("Drop", x, ok, want, wantOk)
	case 18:
		if n, want := w.r.Sweep(w.now), w.m.sweep(w.now); n != want {
			w.t.Fatalf("Sweep: %d, want %d", n, want)
		}
	default:
		w.now += w.rnd.IntN(4)
	}
}

// set sets an entry in both; what was told has to be in new memory, so that it may be spoilt.
func (w *walk) set(x api.Entry) {
	w.t.Helper()
	mine := item.Copy(x)
	want, code := w.m.set(item.Copy(x), w.now)
	l, err := w.r.Set(mine, w.now)
	if trouble.Of(err) != code {
		w.t.Fatalf("Set: %v, want %d", err, code)
	}
	if !item.Same(mine, x) {
		w.t.Fatal("Set changed what it was given")
	}
	same(w.t, "Set", l, want)
	spoil(mine)
	for _, y := range l {
		spoil(y)
	}
}

// spoil changes an entry's value, up to all that its memory has room for.
func spoil(x api.Entry) {
	b := x.Value[:cap(x.Value)]
	for i := range b {
		b[i] ^= 0xff
	}
}

// alike fails if a call did not answer what the model's did.
func (w *walk) alike(call string, x api.Entry, ok bool, want api.Entry, wantOk bool) {
	w.t.Helper()
	if !wantOk {
		isNone(w.t, call, x, ok)
		return
	}
	is(w.t, call, x, ok, want)
	spoil(x)
}

// check holds all that a tier tells of itself against the model.
func (w *walk) check() {
	w.t.Helper()
	if w.r.Len() != len(w.m.l) || w.r.Used() != w.m.used() || w.r.Limit() != w.m.limit {
		w.t.Fatalf("%d entries take %d of %d, want %d that take %d", w.r.Len(), w.r.Used(), w.r.Limit(), len(w.m.l), w.m.used())
	}
	if w.r.Used() > w.r.Limit() {
		w.t.Fatalf("%d of %d", w.r.Used(), w.r.Limit())
	}
	l := w.r.All()
	same(w.t, "All", l, w.m.all())
	for _, x := range l {
		spoil(x)
	}
}

// 11.1 to 11.7, R3: whatever is done, in tiers of all sizes, is as the chapter's words have it; never more bytes are taken than there are; nobody's memory is shared.
func TestWalks(t *testing.T) {
	for _, limit := range []int{1, 31, 32, 33, 63, 64, 65, 96, 100, 128, 500, 1000, 3000, 20000} {
		for seed := range uint64(3) {
			w := newWalk(t, limit, seed)
			for range 1500 {
				w.step()
				w.check()
			}
		}
	}
}

// 11.7: what went for room is told: each entry that was set is there, or was told, replaced, dropped, or had ended.
func TestToldOrThere(t *testing.T) {
	rnd := rand.New(rand.NewPCG(11, 7))
	r := tier(t, 2000)
	should := map[string]api.Entry{}
	now, told := 0, 0
	for i := range 4000 {
		now += rnd.IntN(2)
		x := sized("k"+strconv.Itoa(rnd.IntN(300)), rnd.IntN(400)+10)
		x.Version, x.AsOf = i+1, i+1
		if rnd.IntN(3) == 0 {
			x.Ends = now + 1 + rnd.IntN(50)
		}
		l, err := r.Set(x, now)
		if err != nil {
			t.Fatal(err)
		}
		should[x.Key] = x
		for _, y := range l {
			if !item.Same(should[y.Key], y) || ended(y, now) || y.Key == x.Key {
				t.Fatalf("%d: told of %v", i, y)
			}
			delete(should, y.Key)
			told++
		}
		for key, y := range should {
			got, ok := r.Peek(key)
			if ok != item.Same(got, y) || !ok && !ended(y, now) {
				t.Fatalf("%d: %q: %v, %v", i, key, got, ok)
			}
			if !ok {
				delete(should, key)
			}
		}
		if r.Used() > 2000 || r.Len() != len(should) {
			t.Fatalf("%d: %d entries take %d", i, r.Len(), r.Used())
		}
	}
	if told < 1000 {
		t.Error(told)
	}
}

// R3: what was handed in may be changed behind the call, and what lies behind its end is not handed out.
func TestKeepsNothing(t *testing.T) {
	r := tier(t, 1000)
	b := []byte("abcdef")
	set(t, r, api.Entry{Key: "a", Version: 1, AsOf: 1, Value: b[:3]}, 0)
	if string(b) != "abcdef" {
		t.Errorf("%q", b)
	}
	copy(b, "xyzxyz")
	x, _ := r.Get("a", 0)
	y, _ := r.Peek("a")
	z := r.All()[0]
	for _, got := range []api.Entry{x, y, z} {
		if string(got.Value) != "abc" || bytes.Contains(got.Value[:cap(got.Value)], []byte("d")) {
			t.Errorf("%q", got.Value[:cap(got.Value)])
		}
		spoil(got)
	}
	x, ok := r.Drop("a")
	is(t, "Drop", x, ok, api.Entry{Key: "a", Version: 1, AsOf: 1, Value: []byte("abc")})
}

// R3: lists that were answered once stay as they are, whatever is done then, and may be changed.
func TestAnswersAreNew(t *testing.T) {
	r := with(t, 64, one("a", 3), one("b", 3))
	all := r.All()
	gone, err := r.Set(sized("c", 64), 0)
	if err != nil {
		t.Fatal(err)
	}
	same(t, "All", all, []api.Entry{one("b", 3), one("a", 3)})
	all[0].Key, gone[0].Key = "x", "y"
	spoil(gone[1])
	same(t, "All", all[1:], []api.Entry{one("a", 3)})
	l := r.All()
	l[0] = api.Entry{}
	holds(t, r, "c")
	set(t, r, gone[1], 0, "c")
	set(t, r, one("a", 3), 0)
	same(t, "All", r.All(), []api.Entry{one("a", 3), gone[1]})
}

// R3: values that are nil and values without bytes are the same.
func TestEmptyValues(t *testing.T) {
	r := tier(t, 100)
	set(t, r, api.Entry{Key: "a", Version: 1, AsOf: 1}, 0)
	set(t, r, api.Entry{Key: "b", Version: 1, AsOf: 1, Value: []byte{}}, 0)
	for _, key := range []string{"a", "b"} {
		x, ok := r.Get(key, 0)
		is(t, "Get", x, ok, one(key, 0))
	}
}

// P9, P10: what is answered hangs on the calls alone: two tiers answer alike, and know nothing of each other.
func TestTwoTiers(t *testing.T) {
	a, b := newWalk(t, 700, 5), newWalk(t, 700, 5)
	for range 2000 {
		a.step()
		b.step()
		same(t, "All", a.r.All(), b.r.All())
	}
	if a.r.Len() == 0 {
		t.Error("nothing was held against nothing")
	}
}

// P0: a long run of entries through a little tier ends, and it holds no more than it has room for.
func TestLongRun(t *testing.T) {
	r := tier(t, 320)
	for i := range 20000 {
		l, err := r.Set(one(strconv.Itoa(i), 0), 0)
		if err != nil || i >= 10 && (len(l) != 1 || l[0].Key != strconv.Itoa(i-10)) || i < 10 && len(l) != 0 {
			t.Fatalf("%d: %q, %v", i, keys(l), err)
		}
	}
	if r.Len() != 10 || r.Used() != 320 {
		t.Error(r.Len(), r.Used())
	}
}

// P0: entries that may not be have no promise for Fits, but an answer.
func TestFitsOfBad(t *testing.T) {
	r := with(t, 100, one("a", 1))
	for _, x := range append(bad(), api.Entry{}, api.Entry{Key: "a", Version: math.MinInt, AsOf: math.MinInt, Ends: math.MinInt}, one("a", 1<<20)) {
		r.Fits(x)
	}
	holds(t, r, "a")
}
