package small_test

import (
	"bytes"
	"encoding/binary"
	"hash/crc32"
	"hash/fnv"
	"math"
	"math/rand/v2"
	"slices"
	"strconv"
	"strings"
	"testing"

	"buttery/api"
	"buttery/bloom"
	"buttery/bucket"
	"buttery/flash"
	"buttery/item"
	"buttery/small"
	"buttery/ticket"
	"buttery/trouble"
)

// The calls with the signatures that the chapter lists.
var (
	_ func(*ticket.Ticket, int, int) (*small.Small, error) = small.Open
	_ func(*small.Small) int                               = (*small.Small).Buckets
	_ func(*small.Small, string) int                       = (*small.Small).Bucket
	_ func(*small.Small, string) bool                      = (*small.Small).May
	_ func(*small.Small, string) (api.Entry, bool, error)  = (*small.Small).Get
	_ func(*small.Small, api.Entry) ([]api.Entry, error)   = (*small.Small).Set
	_ func(*small.Small, string) (bool, error)             = (*small.Small).Remove
	_ func(*small.Small, uint64, int) (int, error)         = (*small.Small).Purge
	_ func(*small.Small) ([]api.Entry, error)              = (*small.Small).All
	_ func(*small.Small) error                             = (*small.Small).Clear
)

// room is how many bytes a page has for entries.
const room = 233

// Where the tests' buckets are, and on how many pages, where that does not matter.
const (
	pages = 9
	base  = 2
	count = 5
)

// twins is pairs of keys that have one hash.
var twins = [][2]string{
	{"7mohtcOFVz", "c1E51sSEyx"},
	{"8yn0iYCKYHlIj4-BwPqk", "GReLUrM4wMqfg9yzV3KQ"},
	{"gMPflVXtwGDXbIhP73TX", "LtHf1prlU1bCeYZEdqWf"},
}

// hashOf is a key's hash, by the words of chapter 7 alone.
func hashOf(key string) uint64 {
	sum := fnv.New64a()
	sum.Write([]byte(key))
	h := sum.Sum64()
	h = (h ^ h>>33) * 0xff51afd7ed558ccd
	h = (h ^ h>>33) * 0xc4ceb9fe1a85ec53
	return h ^ h>>33
}

// slotOf is a key's bucket of n, by the same words.
func slotOf(key string, n int) int { return int(hashOf(key) % uint64(n)) }

// digits is a number in bytes of seven bits, by the words of chapter 2 alone.
func digits(n int) []byte {
	b := []byte{byte(n % 128)}
	for n /= 128; n > 0; n /= 128 {
		b = append([]byte{byte(n%128) + 128}, b...)
	}
	return b
}

// letters is the bytes of entries, one behind the other, by the words of chapter 6 alone.
func letters(l ...api.Entry) []byte {
	var b []byte
	for _, x := range l {
		b = slices.Concat(b,
			digits(len(x.Key)), []byte(x.Key),
			digits(x.Version), digits(x.AsOf), digits(x.Ends),
			digits(len(x.Value)), x.Value,
		)
	}
	return b
}

// sizeOf is how many bytes entries take, by the same words.
func sizeOf(l ...api.Entry) int { return len(letters(l...)) }

// page is a page of a stamp, a kind and bytes, by the words of chapter 5 alone.
func page(stamp, kind int, b []byte) []byte {
	p := binary.BigEndian.AppendUint64(nil, uint64(stamp))
	p = append(p, byte(kind), byte(len(b)>>8), byte(len(b)))
	p = append(p, b...)
	p = append(p, make([]byte, 244-len(p))...)
	p = binary.LittleEndian.AppendUint32(p, crc32.ChecksumIEEE(p))
	return binary.BigEndian.AppendUint64(p, uint64(stamp))
}

// one is an entry with a value of so many bytes.
func one(key string, n int) api.Entry {
	return api.Entry{Key: key, Version: 1, AsOf: 1, Value: bytes.Repeat([]byte{byte(n) + 1}, n)}
}

// asOf is an entry that was read at a time.
func asOf(key string, at int) api.Entry { return api.Entry{Key: key, Version: 1, AsOf: at} }

// sized is an entry of just so many bytes in all.
func sized(t *testing.T, key string, size int) api.Entry {
	t.Helper()
	for n := max(size-len(key)-6, 0); n < size; n++ {
		if x := one(key, n); sizeOf(x) == size {
			return x
		}
	}
	t.Fatalf("no entry of %q has %d bytes", key, size)
	return api.Entry{}
}

// in is so many keys of a bucket of n.
func in(b, n, many int) []string {
	var keys []string
	for i := 0; len(keys) < many; i++ {
		if key := "k" + strconv.Itoa(i); slotOf(key, n) == b {
			keys = append(keys, key)
		}
	}
	return keys
}

// bad is entries that may not be, each for one cause.
func bad() []api.Entry {
	key, long, version, highVersion, asOf, highAsOf, ends, highEnds, value := one("a", 1), one("a", 1), one("a", 1), one("a", 1), one("a", 1), one("a", 1), one("a", 1), one("a", 1), one("a", 1)
	key.Key, long.Key = "", strings.Repeat("a", api.MaxKey+1)
	version.Version, version.AsOf = 0, 0
	highVersion.Version, highVersion.AsOf = api.MaxNum+1, api.MaxNum+1
	asOf.Version = 2
	highAsOf.AsOf = api.MaxNum + 1
	ends.Ends, highEnds.Ends = -1, api.MaxNum+1
	value.Value = make([]byte, api.MaxValue+1)
	return []api.Entry{key, long, version, highVersion, asOf, highAsOf, ends, highEnds, value}
}

// keysOf is the keys of entries.
func keysOf(l []api.Entry) []string {
	var out []string
	for _, x := range l {
		out = append(out, x.Key)
	}
	return out
}

// clones is entries in new memory, without asking the program.
func clones(l []api.Entry) []api.Entry {
	out := slices.Clone(l)
	for i, x := range out {
		out[i].Value = slices.Clone(x.Value)
	}
	return out
}

// equal tells whether two entries are the same, without asking the program.
func equal(a, b api.Entry) bool {
	return a.Key == b.Key && a.Version == b.Version && a.AsOf == b.AsOf && a.Ends == b.Ends && string(a.Value) == string(b.Value)
}

// equals tells whether two lists of entries are the same.
func equals(a, b []api.Entry) bool { return slices.EqualFunc(a, b, equal) }

// same fails if two lists of entries are unlike.
func same(t *testing.T, call string, got, want []api.Entry) {
	t.Helper()
	if !equals(got, want) {
		t.Fatalf("%s: %q, want %q", call, keysOf(got), keysOf(want))
	}
}

// model is what each bucket has, by the chapter's words.
type model [][]api.Entry

// copy is the same once more, so that one may be changed.
func (m model) copy() model {
	out := slices.Clone(m)
	for b := range out {
		out[b] = slices.Clone(out[b])
	}
	return out
}

// all is all entries, bucket by bucket.
func (m model) all() []api.Entry { return slices.Concat(m...) }

// find is a key's entry in its bucket.
func (m model) find(key string) (api.Entry, bool) {
	for _, x := range m[slotOf(key, len(m))] {
		if x.Key == key {
			return x, true
		}
	}
	return api.Entry{}, false
}

// set puts an entry that may be, and has room, into its bucket; what went.
func (m model) set(x api.Entry) []api.Entry {
	b := slotOf(x.Key, len(m))
	m.remove(x.Key)
	m[b] = append(m[b], x)
	var gone []api.Entry
	for sizeOf(m[b]...) > room {
		gone = append(gone, m[b][0])
		m[b] = m[b][1:]
	}
	return gone
}

// remove takes a key's entry out of its bucket.
func (m model) remove(key string) bool {
	b := slotOf(key, len(m))
	had := len(m[b])
	m[b] = slices.DeleteFunc(slices.Clone(m[b]), func(x api.Entry) bool { return x.Key == key })
	return len(m[b]) < had
}

// purge takes all of a hash out of their bucket that are as of ahead of a time; how many.
func (m model) purge(hash uint64, asof int) int {
	b := int(hash % uint64(len(m)))
	had := len(m[b])
	m[b] = slices.DeleteFunc(slices.Clone(m[b]), func(x api.Entry) bool { return hashOf(x.Key) == hash && x.AsOf < asof })
	return had - len(m[b])
}

// world is buckets on a device, and what they should have.
type world struct {
	f *flash.Flash
	k *ticket.Ticket
	s *small.Small
	m model
}

// blank is buckets on a new device.
func blank(t *testing.T) *world {
	t.Helper()
	f, err := flash.New(pages)
	done(t, err)
	w := &world{f: f, m: make(model, count)}
	w.open(t)
	return w
}

// open opens the device anew.
func (w *world) open(t *testing.T) {
	t.Helper()
	k, err := ticket.Open(w.f)
	done(t, err)
	w.k, w.s = k, opened(t, k, base, len(w.m))
}

// opened is buckets that are opened.
func opened(t *testing.T, k *ticket.Ticket, base, n int) *small.Small {
	t.Helper()
	s, err := small.Open(k, base, n)
	if err != nil || s == nil {
		t.Fatalf("Open(%d, %d): %v, %v", base, n, s, err)
	}
	return s
}

// done fails if a call that should be done was refused.
func done(t *testing.T, err error) {
	t.Helper()
	if err != nil {
		t.Fatalf("refused: %v", err)
	}
}

// lay writes a page, whatever stands in it, and flushes.
func (w *world) lay(t *testing.T, at int, b []byte) {
	t.Helper()
	done(t, w.f.Write(at, b))
	done(t, w.f.Flush())
}

// fill has buckets of all kinds: none, one, two and many entries.
func (w *world) fill(t *testing.T) {
	t.Helper()
	for b := range count {
		for i, key := range in(b, count, b*b) {
			w.set(t, one(key, 2*i))
		}
	}
}

// cut has the power go at the next change.
func (w *world) cut(t *testing.T) {
	t.Helper()
	w.f.Fuse(0)
	if err := w.f.Flush(); trouble.Of(err) != api.ErrDown || !w.f.Down() {
		t.Fatalf("the power has not gone: %v", err)
	}
}

// set sets an entry that may be, and has room, and holds what is told against the model.
func (w *world) set(t *testing.T, x api.Entry) {
	t.Helper()
	want := w.m.set(x)
	gone, err := w.s.Set(x)
	done(t, err)
	same(t, "Set, what went", gone, want)
}

// remove removes a key, and holds what is told against the model.
func (w *world) remove(t *testing.T, key string) {
	t.Helper()
	want := w.m.remove(key)
	if ok, err := w.s.Remove(key); ok != want || err != nil {
		t.Fatalf("Remove(%q): %v, %v, want %v", key, ok, err, want)
	}
}

// purge purges a hash, and holds what is told against the model.
func (w *world) purge(t *testing.T, hash uint64, asof int) {
	t.Helper()
	want := w.m.purge(hash, asof)
	if n, err := w.s.Purge(hash, asof); n != want || err != nil {
		t.Fatalf("Purge(%x, %d): %d, %v, want %d", hash, asof, n, err, want)
	}
}

// wantGet holds what is got of a key against the model.
func wantGet(t *testing.T, s *small.Small, m model, key string) {
	t.Helper()
	want, there := m.find(key)
	if x, ok, err := s.Get(key); err != nil || ok != there || !equal(x, want) {
		t.Fatalf("Get(%q): %v, %v, %v, want %v, %v", key, x, ok, err, want, there)
	}
}

// wantAll holds all that buckets tell against the model: of the keys that are there, of their twins, and of others.
func wantAll(t *testing.T, s *small.Small, m model) {
	t.Helper()
	if s.Buckets() != len(m) {
		t.Fatalf("Buckets: %d", s.Buckets())
	}
	l, err := s.All()
	done(t, err)
	same(t, "All", l, m.all())
	keys := append(keysOf(m.all()), "", "a", "k", "\xff", strings.Repeat("k", api.MaxKey+1))
	for i := range 20 {
		keys = append(keys, "k"+strconv.Itoa(i))
	}
	for _, pair := range twins {
		keys = append(keys, pair[:]...)
	}
	for _, key := range keys {
		wantGet(t, s, m, key)
		b := slotOf(key, len(m))
		if s.Bucket(key) != b {
			t.Fatalf("Bucket(%q): %d, want %d", key, s.Bucket(key), b)
		}
		if want := bloom.Of(keysOf(m[b])...).May(hashOf(key)); s.May(key) != want {
			t.Fatalf("May(%q): %v, of %q", key, !want, keysOf(m[b]))
		}
	}
}

// check holds all that the buckets tell against the model, and once more when they are opened anew.
func (w *world) check(t *testing.T) {
	t.Helper()
	wantAll(t, w.s, w.m)
	wantAll(t, opened(t, w.k, base, len(w.m)), w.m)
}

// state is all that a device tells of itself.
type state struct {
	next, loose, done int
	down              bool
	cells             []api.Cell
}

// state is what the device tells now.
func (w *world) state() state {
	return state{next: w.k.Next(), loose: w.k.Loose(), done: w.k.Done(), down: w.k.Down(), cells: w.k.Cells()}
}

// wantCells holds the pages of a device against what they should be.
func wantCells(t *testing.T, got, want []api.Cell) {
	t.Helper()
	if !slices.EqualFunc(got, want, func(a, b api.Cell) bool { return a.At == b.At && bytes.Equal(a.Bytes, b.Bytes) }) {
		t.Fatalf("the pages are %v, want %v", got, want)
	}
}

// wantState holds what the device tells against what it told.
func (w *world) wantState(t *testing.T, want state) {
	t.Helper()
	got := w.state()
	wantCells(t, got.cells, want.cells)
	if got.next != want.next || got.loose != want.loose || got.done != want.done || got.down != want.down {
		got.cells, want.cells = nil, nil
		t.Fatalf("the device is %v, want %v", got, want)
	}
}

// wantWritten holds the device against one on which all was as it was, but that some entries were written to a bucket, for good.
func (w *world) wantWritten(t *testing.T, was state, b int) {
	t.Helper()
	at := base + b
	want := slices.DeleteFunc(slices.Clone(was.cells), func(c api.Cell) bool { return c.At == at })
	want = append(want, api.Cell{At: at, Bytes: page(was.next, api.KindBucket, letters(w.m[b]...))})
	slices.SortFunc(want, func(a, b api.Cell) int { return a.At - b.At })
	w.wantState(t, state{next: was.next + 1, done: was.done + 2, cells: want})
}

// wantFault holds an error against the links that it should have, and tells whether anything stands beside it.
func wantFault(t *testing.T, call string, err error, want error, nothing bool) {
	t.Helper()
	if !slices.Equal(trouble.Chain(err), trouble.Chain(want)) || !nothing {
		t.Fatalf("%s: %v, with nothing beside it: %v, want %v", call, err, nothing, want)
	}
}

// wantDown holds all calls that need the power against what they should answer without it.
func (w *world) wantDown(t *testing.T, x api.Entry) {
	t.Helper()
	down := func(call string, err error, nothing bool) {
		t.Helper()
		if trouble.Of(err) != api.ErrDown || !nothing {
			t.Fatalf("%s: %v, with nothing beside it: %v", call, err, nothing)
		}
	}
	was := w.state()
	gone, err := w.s.Set(x)
	down("Set", err, len(gone) == 0)
	ok, err := w.s.Remove(x.Key)
	down("Remove", err, !ok)
	n, err := w.s.Purge(hashOf(x.Key), math.MaxInt)
	down("Purge", err, n == 0)
	l, err := w.s.All()
	down("All", err, len(l) == 0)
	down("Clear", w.s.Clear(), true)
	s, err := small.Open(w.k, base, count)
	down("Open", err, s == nil)
	if y, ok, err := w.s.Get(x.Key); ok || !equal(y, api.Entry{}) || err != nil && trouble.Of(err) != api.ErrDown {
		t.Fatalf("Get: %v, %v, %v", y, ok, err)
	}
	w.s.May(x.Key)
	if w.s.Buckets() != count || w.s.Bucket(x.Key) != slotOf(x.Key, count) {
		t.Fatalf("Buckets: %d, Bucket: %d", w.s.Buckets(), w.s.Bucket(x.Key))
	}
	w.wantState(t, was)
}

// The chapter's example: Set of a and b in one bucket, torn: neither is there.
func TestExample(t *testing.T) {
	for keep := 8; keep < 256; keep++ {
		for fuse := range 2 {
			f, err := flash.New(pages)
			done(t, err)
			k, err := ticket.Open(f)
			done(t, err)
			s := opened(t, k, base, 1)
			gone, err := s.Set(one("a", 0))
			done(t, err)
			same(t, "gone", gone, nil)
			f.Fuse(fuse)
			if gone, err := s.Set(one("b", 0)); len(gone) != 0 || trouble.Of(err) != api.ErrDown {
				t.Fatalf("%q, %v", keysOf(gone), err)
			}
			f.Crash([]int{keep})
			k, err = ticket.Open(f)
			done(t, err)
			wantAll(t, opened(t, k, base, 1), make(model, 1))
		}
	}
}

// refused fails if buckets are not refused with a code, or anything stands beside that.
func refused(t *testing.T, k *ticket.Ticket, base, n int, code api.Code) {
	t.Helper()
	if s, err := small.Open(k, base, n); s != nil || trouble.Of(err) != code {
		t.Errorf("Open(%d, %d): %v, %v, want code %d", base, n, s, err, code)
	}
}

// 13.1: of no device there are no buckets, whichever pages are asked for.
func TestOpenNil(t *testing.T) {
	for _, base := range []int{0, 1, -1, pages, math.MaxInt, math.MinInt} {
		for _, n := range []int{1, 0, -1, pages, math.MaxInt, math.MinInt} {
			refused(t, nil, base, n, api.ErrArg)
			refused(t, new(ticket.Ticket), base, n, api.ErrArg)
		}
	}
}

// 13.1: nor of pages below 0, of fewer than one, or of more than there are; also where the power has gone, which is told last.
func TestOpenOutside(t *testing.T) {
	w := blank(t)
	for _, down := range []bool{false, true} {
		if down {
			w.cut(t)
		}
		was := w.state()
		numbers := []int{math.MinInt, math.MinInt + 1, -pages, -1, 0, 1, 2, pages - 1, pages, pages + 1, api.MaxPages, math.MaxInt - pages, math.MaxInt - 1, math.MaxInt}
		for _, base := range numbers {
			for _, n := range numbers {
				if base < 0 || n < 1 || base > pages || n > pages || base+n > pages {
					refused(t, w.k, base, n, api.ErrRange)
				} else if down {
					refused(t, w.k, base, n, api.ErrDown)
				} else {
					wantAll(t, opened(t, w.k, base, n), make(model, n))
				}
			}
		}
		w.wantState(t, was)
	}
	w.f.Crash(nil)
	wantAll(t, opened(t, w.k, base, count), make(model, count))
}

// 13.1: any pages that there are are buckets: all, the first ones, just the last ones, one alone.
func TestOpenAnyPages(t *testing.T) {
	for _, size := range []int{1, 2, pages, api.MaxPages} {
		for _, base := range []int{0, 1, size / 2, size - 1} {
			for _, n := range []int{1, size / 2, size - base} {
				if base < 0 || n < 1 || base+n > size {
					continue
				}
				f, err := flash.New(size)
				done(t, err)
				k, err := ticket.Open(f)
				done(t, err)
				s, m := opened(t, k, base, n), make(model, n)
				for i := range 12 {
					x := one("k"+strconv.Itoa(i), i)
					gone, err := s.Set(x)
					done(t, err)
					same(t, "gone", gone, m.set(x))
				}
				wantAll(t, s, m)
				wantAll(t, opened(t, k, base, n), m)
				for _, c := range f.Cells() {
					if c.At < base || c.At >= base+n {
						t.Fatalf("page %d was written, of %d from %d on", c.At, n, base)
					}
				}
			}
		}
	}
}

// 13.1 and 13.2: opening changes nothing, and is no change at which the power goes.
func TestOpenChangesNothing(t *testing.T) {
	w := blank(t)
	w.fill(t)
	done(t, w.k.Put(0, api.KindData, []byte("ab")))
	w.f.Fuse(0)
	was := w.state()
	w.check(t)
	w.wantState(t, was)
	if err := w.f.Flush(); trouble.Of(err) != api.ErrDown {
		t.Error("a call that reads was a change")
	}
}

// found is a page, and which entries a bucket has by it.
type found struct {
	p    []byte
	want []api.Entry
}

// pagesOf is pages of all kinds, of some entries, or nearly so.
func pagesOf(l []api.Entry) map[string]found {
	good := page(7, api.KindBucket, letters(l...))
	sum, nought := slices.Clone(good), slices.Clone(good)
	sum[30]++
	nought[243] = 1
	binary.LittleEndian.PutUint32(nought[244:], crc32.ChecksumIEEE(nought[:244]))
	out := map[string]found{
		"blank":        {make([]byte, api.Page), nil},
		"good":         {good, l},
		"no bytes":     {page(7, api.KindBucket, nil), nil},
		"another one":  {page(9, api.KindBucket, letters(l[1:]...)), l[1:]},
		"torn":         {slices.Concat(good[:100], page(8, api.KindBucket, letters(l...))[100:]), nil},
		"no stamp":     {page(0, api.KindBucket, letters(l...)), nil},
		"high stamp":   {page(api.MaxNum+1, api.KindBucket, letters(l...)), nil},
		"sum":          {sum, nil},
		"noughts":      {nought, nil},
		"cut off":      {page(7, api.KindBucket, letters(l...)[:sizeOf(l...)-1]), nil},
		"more":         {page(7, api.KindBucket, append(letters(l...), 1)), nil},
		"a key twice":  {page(7, api.KindBucket, letters(l[0], l[0])), nil},
		"no entry":     {page(7, api.KindBucket, letters(asOf("", 1))), nil},
		"no key":       {page(7, api.KindBucket, append(letters(l...), 0, 1, 1, 0, 0)), nil},
		"other things": {page(7, api.KindBucket, []byte("abc")), nil},
		"ones":         {bytes.Repeat([]byte{255}, api.Page), nil},
	}
	for _, kind := range []int{0, api.KindData, api.KindFoot, api.KindEpoch, api.KindIndex, 6, 255} {
		out["kind "+strconv.Itoa(kind)] = found{page(7, kind, letters(l...)), nil}
	}
	return out
}

// 13.1, 13.3 and 13.6: a bucket has the entries of its page's leaf; what is no bucket is an empty one. Its neighbours are none the worse.
func TestOpenFinds(t *testing.T) {
	keys := in(3, count, 3)
	l := []api.Entry{one(keys[0], 3), {Key: keys[1], Version: 3, AsOf: 5, Ends: 9, Value: []byte("ab")}, one(keys[2], 100)}
	for name, x := range pagesOf(l) {
		t.Run(name, func(t *testing.T) {
			w := blank(t)
			w.fill(t)
			w.lay(t, base+3, x.p)
			w.m[3] = x.want
			w.open(t)
			was := w.state()
			w.check(t)
			w.wantState(t, was)
		})
	}
}

// 13.3 to 13.6: what is no bucket is an empty one for all calls, and is one once something is set.
func TestOverSpoilt(t *testing.T) {
	keys := in(3, count, 3)
	l := []api.Entry{one(keys[0], 3), one(keys[1], 4), one(keys[2], 100)}
	for name, x := range pagesOf(l) {
		t.Run(name, func(t *testing.T) {
			w := blank(t)
			w.fill(t)
			w.lay(t, base+3, x.p)
			w.m[3] = x.want
			w.open(t)
			was := w.state()
			w.purge(t, hashOf(keys[0]), 1)
			w.remove(t, "k")
			w.wantState(t, was)
			if len(x.want) == 0 {
				w.remove(t, keys[0])
				w.wantState(t, was)
			}
			w.set(t, one(keys[2], 7))
			w.wantWritten(t, was, 3)
			w.check(t)
			w.purge(t, hashOf(keys[2]), 2)
			w.check(t)
		})
	}
}

// 13.2: a key's bucket is the slot of its hash, whatever is a key, and whatever is there.
func TestBucket(t *testing.T) {
	keys := []string{"", "a", "b", "ab", "\x00", "\xff\xfe", "käse", strings.Repeat("k", api.MaxKey), strings.Repeat("k", api.MaxKey+1), strings.Repeat("k", 5000)}
	for i := range 300 {
		keys = append(keys, strconv.Itoa(i))
	}
	for _, pair := range twins {
		keys = append(keys, pair[:]...)
	}
	f, err := flash.New(api.MaxPages)
	done(t, err)
	k, err := ticket.Open(f)
	done(t, err)
	for _, n := range []int{1, 2, 3, 7, 64, 100, api.MaxPages - 1, api.MaxPages} {
		for _, base := range []int{0, api.MaxPages - n} {
			s := opened(t, k, base, n)
			if s.Buckets() != n {
				t.Errorf("Buckets: %d, want %d", s.Buckets(), n)
			}
			for _, key := range keys {
				if b := s.Bucket(key); b != slotOf(key, n) || b != bloom.Slot(bloom.Hash(key), n) {
					t.Errorf("Bucket(%q) of %d: %d", key, n, b)
				}
			}
		}
	}
}

// 13.3: a key may be there, though it is not, if all its bits are set by those of its bucket; those of other buckets set none.
func TestMayBeThough(t *testing.T) {
	w := blank(t)
	l := in(3, count, 12)
	for _, key := range l {
		w.set(t, asOf(key, 1))
	}
	f := bloom.Of(l...)
	mays, others := 0, 0
	for i := range 30000 {
		key := "x" + strconv.Itoa(i)
		want := slotOf(key, count) == 3 && f.May(hashOf(key))
		if w.s.May(key) != want {
			t.Fatalf("May(%q): %v", key, !want)
		}
		if want {
			wantGet(t, w.s, w.m, key)
			mays++
		} else if f.May(hashOf(key)) {
			others++
		}
	}
	if mays == 0 || others == 0 {
		t.Fatalf("of %d keys that may be there, and %d of other buckets nothing was told", mays, others)
	}
}

// 13.3: what may be there follows each write at once: a set, one for which others go, a remove, a purge, a clear; not what was refused.
func TestMayFollows(t *testing.T) {
	w := blank(t)
	keys := in(3, count, 6)
	may := func(want ...string) {
		t.Helper()
		for _, key := range keys {
			if got, want := w.s.May(key), bloom.Of(want...).May(hashOf(key)); got != want {
				t.Fatalf("May(%q): %v, want %v", key, got, want)
			}
		}
	}
	if bloom.Of(keys[1:]...).May(hashOf(keys[0])) || bloom.Of(keys[:3]...).May(hashOf(keys[3])) {
		t.Fatal("these keys tell nothing")
	}
	may()
	w.set(t, one(keys[0], 100))
	may(keys[0])
	w.set(t, one(keys[1], 100))
	may(keys[:2]...)
	w.set(t, one(keys[2], 100))
	may(keys[1:3]...)
	if _, err := w.s.Set(one(keys[3], 300)); err == nil {
		t.Fatal("not refused")
	}
	may(keys[1:3]...)
	w.remove(t, keys[3])
	may(keys[1:3]...)
	w.remove(t, keys[1])
	may(keys[2])
	w.purge(t, hashOf(keys[2]), 1)
	may(keys[2])
	w.purge(t, hashOf(keys[2]), 2)
	may()
	w.set(t, one(keys[4], 0))
	w.set(t, one(in(2, count, 1)[0], 0))
	may(keys[4])
	done(t, w.s.Clear())
	may()
	if w.s.May(in(2, count, 1)[0]) {
		t.Error("may be there, though all was cleared")
	}
}

// 13.3: once the power has come again what may be there is what is there, wherever it went, also of buckets that were not opened anew.
func TestMayBehindPower(t *testing.T) {
	keys := in(3, count, 4)
	for _, may := range []bool{false, true} {
		for keep := range api.Page + 1 {
			for fuse := range 2 {
				for call := range 3 {
					w := blank(t)
					w.set(t, one(keys[0], 3))
					w.set(t, one(keys[1], 3))
					w.f.Fuse(fuse)
					var err error
					switch call {
					case 0:
						_, err = w.s.Set(one(keys[2], 4))
					case 1:
						_, err = w.s.Remove(keys[0])
					case 2:
						err = w.s.Clear()
					}
					if trouble.Of(err) != api.ErrDown {
						t.Fatal(err)
					}
					if may {
						w.s.May(keys[0])
					}
					w.f.Crash(slices.Repeat([]int{keep}, count))
					l, err := w.s.All()
					done(t, err)
					for _, key := range keys {
						if w.s.May(key) != bloom.Of(keysOf(l)...).May(hashOf(key)) {
							t.Fatalf("keep %d: May(%q) of %q: %v", keep, key, keysOf(l), w.s.May(key))
						}
					}
				}
			}
		}
	}
}

// 13.3: what was set is got, whole; a key that is nearly one is not.
func TestGet(t *testing.T) {
	w := blank(t)
	long := strings.Repeat("k", api.MaxKey-1)
	for _, x := range []api.Entry{
		{Key: "a", Version: 1, AsOf: 1},
		{Key: "b", Version: 3, AsOf: 5, Ends: 9, Value: []byte("ab")},
		{Key: "A", Version: 1, AsOf: 1, Value: []byte{}},
		{Key: "a\x00", Version: 128, AsOf: 300, Ends: 1 << 21, Value: []byte{0}},
		{Key: "\xff\xfe", Version: api.MaxNum, AsOf: api.MaxNum, Ends: api.MaxNum, Value: bytes.Repeat([]byte{255}, 127)},
		{Key: long, Version: 2, AsOf: 4},
		{Key: long + "k", Version: 2, AsOf: 4, Value: []byte("long")},
	} {
		w.set(t, x)
		wantGet(t, w.s, w.m, x.Key)
		w.check(t)
	}
	for _, key := range []string{"", "c", "B", "aa", "\x00", "a ", long + "l", long + "kk", "\xff"} {
		if x, ok, err := w.s.Get(key); ok || err != nil || !equal(x, api.Entry{}) {
			t.Errorf("Get(%q): %v, %v, %v", key, x, ok, err)
		}
	}
}

// 13.3: keys of one hash are two keys.
func TestGetTwin(t *testing.T) {
	for _, pair := range twins {
		if hashOf(pair[0]) != hashOf(pair[1]) {
			t.Fatalf("%q have two hashes", pair)
		}
		w := blank(t)
		w.set(t, one(pair[0], 3))
		wantGet(t, w.s, w.m, pair[1])
		if !w.s.May(pair[1]) {
			t.Errorf("May(%q): its hash is there", pair[1])
		}
		w.check(t)
		w.set(t, one(pair[1], 4))
		w.check(t)
		w.remove(t, pair[0])
		w.check(t)
		w.remove(t, pair[0])
		w.remove(t, pair[1])
		w.check(t)
	}
}

// 13.2 to 13.6: an entry in another bucket than its key's is one of that bucket, but is not found by its key.
func TestWrongBucket(t *testing.T) {
	key, other := in(3, count, 1)[0], in(1, count, 2)[1]
	w := blank(t)
	w.lay(t, base+3, page(4, api.KindBucket, letters(one(other, 3), one(key, 4))))
	w.open(t)
	w.m[3] = []api.Entry{one(other, 3), one(key, 4)}
	w.check(t)
	was := w.state()
	w.remove(t, other)
	w.purge(t, hashOf(other), 9)
	w.wantState(t, was)
	w.set(t, one(other, 5))
	w.check(t)
	w.remove(t, other)
	w.check(t)
	w.remove(t, key)
	w.check(t)
}

// 13.4: what is left is written as it is, with the next stamp, and flushed, with all that waited; nothing else is touched.
func TestSetWrites(t *testing.T) {
	w := blank(t)
	w.fill(t)
	done(t, w.k.Put(0, api.KindData, []byte("waits")))
	keys := in(3, count, 3)
	for i, x := range []api.Entry{one("b", 1), one(keys[0], 3), one(keys[1], 30), one(keys[0], 5), one(keys[2], 150), one(keys[2], 150), asOf("a", 77)} {
		was := w.state()
		w.set(t, x)
		w.wantWritten(t, was, slotOf(x.Key, count))
		if i%2 == 0 {
			w.f.Crash(nil)
		}
		w.check(t)
	}
}

// 13.4: an entry stands behind all others of its bucket, also one whose key had one; that one did not go for room.
func TestSetOrder(t *testing.T) {
	w := blank(t)
	keys := in(3, count, 3)
	for _, key := range []string{keys[0], keys[1], keys[2], keys[1], keys[0], keys[0]} {
		w.set(t, one(key, 2))
		w.check(t)
	}
	same(t, "bucket", w.m[3], []api.Entry{one(keys[2], 2), one(keys[1], 2), one(keys[0], 2)})
	w.set(t, sized(t, keys[1], room))
	same(t, "bucket", w.m[3], []api.Entry{sized(t, keys[1], room)})
	w.set(t, sized(t, keys[1], room-1))
	w.check(t)
}

// 13.4: as long as there is no room the eldest ones go, and are told, in order; those of other buckets stay.
func TestSetGoes(t *testing.T) {
	keys := in(3, count, 5)
	for _, size := range []int{13, 14, 27, 28, 100, 174, 175, 200, room - 1, room} {
		w := blank(t)
		for b := range count {
			w.set(t, sized(t, in(b, count, 9)[8], room))
		}
		w.remove(t, in(3, count, 9)[8])
		for i, n := range []int{60, 100, 13, 47} {
			w.set(t, sized(t, keys[i], n))
		}
		w.set(t, sized(t, keys[4], size))
		w.check(t)
	}
}

// 13.4: what may not be, or has no room in a page, is refused with bucket.Insert's error, of any bucket, and nothing is changed.
func TestSetRefused(t *testing.T) {
	w := blank(t)
	w.fill(t)
	wrong := bad()
	for _, key := range append(in(0, count, 2), in(4, count, 17)...) {
		wrong = append(wrong, sized(t, key, room+1), one(key, api.MaxValue))
		x := sized(t, key, room+1)
		x.AsOf = 0
		wrong = append(wrong, x)
	}
	was := w.state()
	for _, x := range wrong {
		_, _, want := bucket.Insert(w.m[slotOf(x.Key, count)], x)
		if want == nil || trouble.Of(want) == api.ErrSize != (item.Check(x) == nil || len(x.Key) > api.MaxKey || len(x.Value) > api.MaxValue) {
			t.Fatal(want)
		}
		gone, err := w.s.Set(x)
		wantFault(t, "Set", err, want, len(gone) == 0)
	}
	w.wantState(t, was)
	w.check(t)
}

// 13.4 and 13.5: behind the last stamp nothing can be written, but what is there can be read, and what changes nothing is no error.
func TestLastStamp(t *testing.T) {
	w := blank(t)
	l := []api.Entry{one("a", 3), one("b", 4)}
	for _, x := range l {
		w.set(t, x)
	}
	w.lay(t, 0, page(api.MaxNum-1, api.KindData, nil))
	w.open(t)
	w.set(t, one("b", 5))
	was := w.state()
	if was.next != api.MaxNum+1 {
		t.Fatal(was.next)
	}
	for range 2 {
		want := w.k.Firm(base, api.KindBucket, nil)
		if trouble.Of(want) != api.ErrRange {
			t.Fatal(want)
		}
		steps := func(key string) error {
			at := base + slotOf(key, count)
			return trouble.Wrap("put", at, trouble.New("stamp", api.MaxNum+1, api.ErrRange))
		}
		gone, err := w.s.Set(one("c", 1))
		wantFault(t, "Set", err, steps("c"), len(gone) == 0)
		gone, err = w.s.Set(one("a", 1))
		wantFault(t, "Set", err, steps("a"), len(gone) == 0)
		ok, err := w.s.Remove("a")
		wantFault(t, "Remove", err, steps("a"), !ok)
		n, err := w.s.Purge(hashOf("b"), 2)
		wantFault(t, "Purge", err, steps("b"), n == 0)
		w.remove(t, "c")
		w.purge(t, hashOf("b"), 1)
		w.wantState(t, was)
		w.check(t)
		w.open(t)
	}
	done(t, w.s.Clear())
	w.m = make(model, count)
	w.check(t)
}

// 13.3 to 13.6: once the power has gone nothing is done, also by a call that would be refused, or would do nothing; that is told first.
func TestDown(t *testing.T) {
	w := blank(t)
	w.fill(t)
	wrong := append(bad(), one("a", api.MaxValue), one("nowhere", 3), one(in(4, count, 1)[0], 0))
	w.cut(t)
	for _, x := range wrong {
		w.wantDown(t, x)
	}
	w.f.Crash(nil)
	w.check(t)
	w.open(t)
	w.check(t)
}

// 13.3: while the power has gone a key is not got, be it there or not, and whatever was asked ahead.
func TestGetDown(t *testing.T) {
	for _, asked := range []bool{false, true} {
		w := blank(t)
		w.fill(t)
		w.open(t)
		keys := append(keysOf(w.m.all()), "a", "nowhere", "")
		if asked {
			w.check(t)
		}
		w.cut(t)
		for _, key := range keys {
			if x, ok, err := w.s.Get(key); ok || !equal(x, api.Entry{}) || err != nil && trouble.Of(err) != api.ErrDown {
				t.Errorf("Get(%q): %v, %v, %v", key, x, ok, err)
			}
			w.s.May(key)
		}
		w.f.Crash(nil)
		w.check(t)
	}
}

// 13.4 and 13.5: the power that goes at the put, or at the flush, is told by ticket.Firm's error, with nothing beside it; then nothing more is done.
func TestFuse(t *testing.T) {
	keys := in(4, count, 17)
	at := base + 4
	for fuse, want := range []error{
		trouble.Wrap("put", at, trouble.New("write", at, api.ErrDown)),
		trouble.Wrap("firm", at, trouble.New("flush", 1, api.ErrDown)),
	} {
		for call := range 4 {
			w := blank(t)
			w.fill(t)
			was := w.state()
			w.f.Fuse(fuse)
			switch call {
			case 0:
				gone, err := w.s.Set(one(keys[16], 3))
				wantFault(t, "Set", err, want, len(gone) == 0)
			case 1:
				gone, err := w.s.Set(sized(t, keys[16], room))
				wantFault(t, "Set", err, want, len(gone) == 0)
			case 2:
				key := w.m[4][0].Key
				ok, err := w.s.Remove(key)
				wantFault(t, "Remove", err, want, !ok)
			case 3:
				key := w.m[4][0].Key
				n, err := w.s.Purge(hashOf(key), 2)
				wantFault(t, "Purge", err, want, n == 0)
			}
			if !w.f.Down() || w.f.Loose() != 1 || w.f.Done() != was.done+fuse+1 || w.k.Next() != was.next+fuse {
				t.Fatalf("Down %v, Loose %d, Done %d, Next %d", w.f.Down(), w.f.Loose(), w.f.Done(), w.k.Next())
			}
			w.wantDown(t, one(keys[16], 3))
			w.f.Crash(nil)
			w.open(t)
			w.check(t)
		}
	}
}

// 13.5: the key's entry is taken out, wherever it stands in its bucket; the others are written, in order, also if there are none.
func TestRemove(t *testing.T) {
	keys := in(3, count, 4)
	for n := 1; n <= len(keys); n++ {
		for i := range n {
			w := blank(t)
			w.set(t, one("a", 1))
			for j, key := range keys[:n] {
				w.set(t, one(key, j))
			}
			done(t, w.k.Put(0, api.KindData, []byte("waits")))
			was := w.state()
			w.remove(t, keys[i])
			w.wantWritten(t, was, 3)
			w.f.Crash(nil)
			w.open(t)
			w.check(t)
			was = w.state()
			w.remove(t, keys[i])
			w.wantState(t, was)
		}
	}
}

// 13.5: of a key that there is not, or that may not be, nothing is removed, nor written.
func TestRemoveNone(t *testing.T) {
	w := blank(t)
	for _, filled := range []bool{false, true} {
		if filled {
			w.fill(t)
		}
		done(t, w.k.Put(0, api.KindData, []byte("waits")))
		was := w.state()
		for b := range count {
			for _, key := range append(in(b, count, 30)[20:], "", "\x00", "\xff", strings.Repeat("k", api.MaxKey+1)) {
				w.remove(t, key)
			}
		}
		w.wantState(t, was)
		w.check(t)
	}
}

// 13.5: all of a hash that are as of ahead of a time are taken out of their bucket, be it one or two; the others are written, in order.
func TestPurge(t *testing.T) {
	for _, pair := range twins {
		b := slotOf(pair[0], count)
		around := in(b, count, 3)
		for _, at := range [][2]int{{5, 5}, {5, 7}, {7, 5}, {api.MaxNum, 1}} {
			for _, asof := range []int{math.MinInt, -1, 0, 1, 2, 4, 5, 6, 7, 8, api.MaxNum - 1, api.MaxNum, api.MaxNum + 1, math.MaxInt} {
				w := blank(t)
				for _, x := range []api.Entry{asOf(around[0], 1), asOf(pair[0], at[0]), asOf(around[1], 9), asOf(pair[1], at[1]), asOf(around[2], 3)} {
					w.set(t, x)
				}
				w.set(t, asOf(in((b+1)%count, count, 1)[0], 1))
				done(t, w.k.Put(0, api.KindData, []byte("waits")))
				was := w.state()
				want := 0
				for _, a := range at {
					if a < asof {
						want++
					}
				}
				n, err := w.s.Purge(hashOf(pair[0]), asof)
				if n != want || err != nil || w.m.purge(hashOf(pair[0]), asof) != want {
					t.Fatalf("Purge as of %d, of those as of %d: %d, %v, want %d", asof, at, n, err, want)
				}
				if want == 0 {
					w.wantState(t, was)
				} else {
					w.wantWritten(t, was, b)
					w.f.Crash(nil)
					w.open(t)
				}
				w.check(t)
			}
		}
	}
}

// 13.5: of an entry's hash, as of just below, at and above its time.
func TestPurgeEdge(t *testing.T) {
	for _, at := range []int{1, 2, 300, api.MaxNum} {
		w := blank(t)
		w.set(t, asOf("a", at))
		w.purge(t, hashOf("a"), at-1)
		w.purge(t, hashOf("a"), at)
		if _, ok := w.m.find("a"); !ok {
			t.Fatal("gone too early")
		}
		w.check(t)
		w.purge(t, hashOf("a"), at+1)
		if _, ok := w.m.find("a"); ok {
			t.Fatal("not gone")
		}
		w.check(t)
	}
}

// 13.5: AsOf counts, and neither the version nor when it ends.
func TestPurgeByAsOf(t *testing.T) {
	w := blank(t)
	w.set(t, api.Entry{Key: "a", Version: 3, AsOf: 9, Ends: 2})
	w.purge(t, hashOf("a"), 9)
	w.check(t)
	w.purge(t, hashOf("a"), 10)
	w.check(t)
	if len(w.m.all()) != 0 {
		t.Error("it is still there")
	}
}

// 13.5: a hash that none has, also one beside those that are there, or in no key's reach, takes nothing out, and nothing is written.
func TestPurgeNone(t *testing.T) {
	w := blank(t)
	hashes := []uint64{0, 1, 2, count, math.MaxInt64, 1 << 63, 1<<63 + 1, math.MaxUint64 - 1, math.MaxUint64}
	for _, filled := range []bool{false, true} {
		if filled {
			w.fill(t)
		}
		for _, x := range w.m.all() {
			h := hashOf(x.Key)
			hashes = append(hashes, h+count, h-count, h+1, h^1<<63, h^1<<40)
		}
		was := w.state()
		for _, h := range hashes {
			for _, asof := range []int{0, 1, 2, math.MaxInt} {
				w.purge(t, h, asof)
			}
		}
		w.wantState(t, was)
		w.check(t)
	}
}

// 13.6: all entries, bucket by bucket, in each the eldest ahead, in whichever order they were set.
func TestAll(t *testing.T) {
	w := blank(t)
	l, err := w.s.All()
	done(t, err)
	same(t, "All", l, nil)
	var keys []string
	for b := range count {
		keys = append(keys, in(b, count, 4)...)
	}
	r := rand.New(rand.NewPCG(13, 6))
	for range 60 {
		r.Shuffle(len(keys), func(i, j int) { keys[i], keys[j] = keys[j], keys[i] })
		for _, key := range keys[:r.IntN(len(keys))] {
			w.set(t, one(key, r.IntN(30)))
		}
		l, err := w.s.All()
		done(t, err)
		same(t, "All", l, w.m.all())
		if !slices.IsSortedFunc(l, func(a, b api.Entry) int { return slotOf(a.Key, count) - slotOf(b.Key, count) }) {
			t.Fatalf("not bucket by bucket: %q", keysOf(l))
		}
	}
}

// 13.6: behind a clear all buckets' pages are blank, for good, whatever they were, and no others; what waited is flushed.
func TestClear(t *testing.T) {
	w := blank(t)
	w.fill(t)
	for at := range pages {
		if at < base || at >= base+count {
			w.lay(t, at, page(50+at, api.KindBucket, letters(one("a", 3))))
		}
	}
	w.lay(t, base+2, page(60, api.KindFoot, []byte("foot")))
	w.lay(t, base+1, bytes.Repeat([]byte{255}, api.Page))
	w.open(t)
	done(t, w.k.Put(0, api.KindData, []byte("waits")))
	was := w.state()
	want := slices.DeleteFunc(slices.Clone(was.cells), func(c api.Cell) bool { return c.At >= base && c.At < base+count })
	if len(want) != pages-count {
		t.Fatalf("%d other pages", len(want))
	}
	w.m = make(model, count)
	for n := range 2 {
		done(t, w.s.Clear())
		w.wantState(t, state{next: was.next, done: was.done + (n+1)*(count+1), cells: want})
		w.check(t)
		w.f.Crash(nil)
		wantCells(t, w.f.Cells(), want)
	}
	w.open(t)
	w.set(t, one("a", 3))
	w.check(t)
	done(t, w.s.Clear())
	w.m = make(model, count)
	w.check(t)
}

// 13.6 and 13.7: where the power goes at a clear, that is told by the trim's error, or the flush's, and the pages ahead of it were trimmed, in order; each may be kept.
func TestClearFuse(t *testing.T) {
	for fuse := range count + 1 {
		for kept := range 1 << min(fuse+1, count) {
			w := blank(t)
			w.fill(t)
			was := w.state()
			w.f.Fuse(fuse)
			want := trouble.New("trim", base+fuse, api.ErrDown)
			if fuse == count {
				want = trouble.New("flush", count, api.ErrDown)
			}
			wantFault(t, "Clear", w.s.Clear(), want, true)
			if w.f.Loose() != min(fuse+1, count) || w.f.Done() != was.done+fuse+1 || !w.f.Down() {
				t.Fatalf("Loose %d, Done %d, Down %v", w.f.Loose(), w.f.Done(), w.f.Down())
			}
			w.wantDown(t, one("a", 3))
			keep := make([]int, w.f.Loose())
			for b := range keep {
				keep[b] = api.Page - 1
				if kept>>b&1 == 1 {
					keep[b] = api.Page
					w.m[b] = nil
				}
			}
			w.f.Crash(keep)
			wantAll(t, w.s, w.m)
			w.open(t)
			w.check(t)
		}
	}
}

// crashed fails if a device, once its power has come again, has anything else in a bucket than it had, or was to have, or nothing; or has lost anything of another one.
func crashed(t *testing.T, w *world, b, keep int, had, toHave model) {
	t.Helper()
	w.f.Crash([]int{keep})
	w.open(t)
	w.m = had.copy()
	switch {
	case keep >= api.Page:
		w.m = toHave.copy()
	case keep > 7:
		// Both ends of the page are unlike, as long as the last byte of the stamp was not written.
		w.m[b] = nil
	}
	wantAll(t, w.s, w.m)
	w.set(t, one("k0", 9))
	l, err := w.s.All()
	done(t, err)
	same(t, "All", l, w.m.all())
}

// 13.7: wherever the power goes while an entry is set, removed or purged, the bucket has what it had, or what it was to have, or nothing; all other buckets have what they had.
func TestPowerAnywhere(t *testing.T) {
	keys := in(4, count, 17)
	calls := []func(s *small.Small) error{
		func(s *small.Small) error { _, err := s.Set(one(keys[16], 3)); return err },
		func(s *small.Small) error { _, err := s.Set(sized(t, keys[16], room)); return err },
		func(s *small.Small) error { _, err := s.Set(one(keys[14], 1)); return err },
		func(s *small.Small) error { _, err := s.Remove(keys[15]); return err },
		func(s *small.Small) error { _, err := s.Purge(hashOf(keys[15]), 2); return err },
	}
	models := []func(m model){
		func(m model) { m.set(one(keys[16], 3)) },
		func(m model) { m.set(sized(t, keys[16], room)) },
		func(m model) { m.set(one(keys[14], 1)) },
		func(m model) { m.remove(keys[15]) },
		func(m model) { m.purge(hashOf(keys[15]), 2) },
	}
	for i, call := range calls {
		for fuse := range 2 {
			for keep := -1; keep <= api.Page+1; keep++ {
				w := blank(t)
				w.fill(t)
				had, toHave := w.m.copy(), w.m.copy()
				models[i](toHave)
				if equals(had[4], toHave[4]) {
					t.Fatalf("call %d changes nothing", i)
				}
				w.f.Fuse(fuse)
				if err := call(w.s); trouble.Of(err) != api.ErrDown {
					t.Fatal(err)
				}
				crashed(t, w, 4, keep, had, toHave)
			}
			// Behind both the call is done, and the fuse still burns.
			w := blank(t)
			w.fill(t)
			toHave := w.m.copy()
			models[i](toHave)
			w.f.Fuse(2 + fuse)
			done(t, call(w.s))
			crashed(t, w, 4, api.Page, nil, toHave)
		}
	}
}

// run is buckets that go on through many crashes, and what each may have.
type run struct {
	*world
	r   *rand.Rand
	may [count][][]api.Entry // what a bucket had, was to have, or nothing
}

// drawnKey is a key as if by chance, seldom one that has a twin, or is none.
func (x *run) drawnKey() string {
	switch x.r.IntN(30) {
	case 0:
		return twins[0][x.r.IntN(2)]
	case 1:
		return ""
	}
	return strconv.Itoa(x.r.IntN(24))
}

// drawnEntry is an entry as if by chance, seldom one that may not be, or takes more than a page has.
func (x *run) drawnEntry() api.Entry {
	y := api.Entry{Key: x.drawnKey(), Version: x.r.IntN(300) + 1, Ends: x.r.IntN(200), Value: make([]byte, x.r.IntN(70))}
	y.AsOf = y.Version + x.r.IntN(1<<x.r.IntN(10))
	for i := range y.Value {
		y.Value[i] = byte(x.r.Uint32())
	}
	switch x.r.IntN(40) {
	case 0:
		y.Version = y.AsOf + 1
	case 1:
		y.Value = make([]byte, 215+x.r.IntN(20))
	case 2:
		y.Value = make([]byte, 300)
	}
	return y
}

// step does something as if by chance, and holds what is told against the model; false: the power has gone.
func (x *run) step(t *testing.T) bool {
	t.Helper()
	y, key := x.drawnEntry(), x.drawnKey()
	next := x.m.copy()
	var err error
	switch x.r.IntN(12) {
	default:
		var gone, want []api.Entry
		if item.Check(y) == nil && sizeOf(y) <= room {
			want = next.set(y)
		}
		gone, err = x.s.Set(y)
		if err == nil {
			same(t, "Set, what went", gone, want)
		}
		if code := trouble.Of(err); code != api.OK && code != api.ErrDown {
			_, _, want := bucket.Insert(x.m[slotOf(y.Key, count)], y)
			wantFault(t, "Set", err, want, len(gone) == 0)
			return true
		}
	case 0, 1:
		var ok bool
		want := next.remove(key)
		if ok, err = x.s.Remove(key); err == nil && ok != want {
			t.Fatalf("Remove(%q): %v", key, ok)
		}
	case 2, 3:
		var n int
		asof := x.r.IntN(500)
		want := next.purge(hashOf(key), asof)
		if n, err = x.s.Purge(hashOf(key), asof); err == nil && n != want {
			t.Fatalf("Purge(%q, %d): %d, want %d", key, asof, n, want)
		}
	case 4:
		if x.r.IntN(8) > 0 {
			return true
		}
		clear(next)
		err = x.s.Clear()
	}
	if err == nil {
		x.m = next
		return true
	}
	if trouble.Of(err) != api.ErrDown || !x.f.Down() {
		t.Fatal(err)
	}
	for b := range count {
		x.may[b] = [][]api.Entry{x.m[b]}
		if !equals(x.m[b], next[b]) {
			x.may[b] = append(x.may[b], next[b], nil)
		}
	}
	return false
}

// crash has the power go, and finds what each bucket has then.
func (x *run) crash(t *testing.T) {
	t.Helper()
	var keep []int
	for range x.f.Loose() {
		keep = append(keep, []int{0, 1, 6, 7, 8, 9, 100, 247, 248, 254, 255, 256, x.r.IntN(257)}[x.r.IntN(13)])
	}
	x.f.Crash(keep)
	x.open(t)
	l, err := x.s.All()
	done(t, err)
	for b := range count {
		var has []api.Entry
		for _, y := range l {
			if slotOf(y.Key, count) == b {
				has = append(has, y)
			}
		}
		if !slices.ContainsFunc(x.may[b], func(m []api.Entry) bool { return equals(m, has) }) {
			t.Fatalf("bucket %d has %q, that it can't have", b, keysOf(has))
		}
		x.m[b] = has
	}
}

// All promises: long rows of calls through many crashes, held against the chapter's words.
func TestRuns(t *testing.T) {
	for seed := range uint64(40) {
		x := &run{world: blank(t), r: rand.New(rand.NewPCG(seed, 13))}
		for range 30 {
			x.f.Fuse(x.r.IntN(60))
			for x.step(t) {
				if x.r.IntN(8) == 0 {
					wantAll(t, x.s, x.m)
				}
			}
			x.wantDown(t, x.drawnEntry())
			x.crash(t)
			x.check(t)
		}
	}
}

// 13.7: what was set is got, when the power goes behind it, too.
func TestSetStays(t *testing.T) {
	w := blank(t)
	for b := range count {
		for i, key := range in(b, count, 6) {
			w.set(t, one(key, 5*i))
			w.f.Crash(slices.Repeat([]int{api.Page}, 9))
			w.open(t)
			w.check(t)
		}
	}
}

// 13.1: buckets side by side on one device, and on two, have nothing to do with each other.
func TestTwo(t *testing.T) {
	w, other := blank(t), blank(t)
	a, b := opened(t, w.k, 0, base), opened(t, w.k, base+count, pages-base-count)
	ma, mb := make(model, base), make(model, pages-base-count)
	for i := range 40 {
		x := one("k"+strconv.Itoa(i), i)
		w.set(t, x)
		_, err := a.Set(x)
		done(t, err)
		ma.set(x)
		if i%3 == 0 {
			_, err := b.Set(x)
			done(t, err)
			mb.set(x)
			w.remove(t, x.Key)
		}
	}
	done(t, a.Clear())
	wantAll(t, a, make(model, base))
	wantAll(t, b, mb)
	w.check(t)
	other.check(t)
	w.cut(t)
	other.set(t, one("a", 1))
	other.check(t)
}

// within is an entry whose value stands in the midst of other bytes, which no call may read, write or hand out.
func within(x api.Entry) (api.Entry, []byte) {
	value := bytes.Repeat([]byte{0xee}, len(x.Value)+40)
	copy(value[4:], x.Value)
	x.Value = value[4 : 4+len(x.Value)]
	return x, value
}

// R3: what is handed in is neither changed nor kept, nor what lies around it in its memory.
func TestHandedInStays(t *testing.T) {
	w := blank(t)
	for _, x := range append(bad(), one("a", 3), one("b", 100), one("c", api.MaxValue), sized(t, "d", room), sized(t, "e", room+1)) {
		given, value := within(x)
		was, wasValue := clones([]api.Entry{given})[0], slices.Clone(value)
		gone, err := w.s.Set(given)
		if !equal(given, was) || !bytes.Equal(value, wasValue) {
			t.Fatalf("%q was changed", x.Key)
		}
		if err == nil {
			same(t, "gone", gone, w.m.set(x))
		}
		for i := range value {
			value[i] = 0xdd
		}
		w.check(t)
	}
}

// wipe writes over entries, their values, and what lies behind each of these in its memory; behind them there was nothing.
func wipe(t *testing.T, l []api.Entry) {
	t.Helper()
	for _, x := range l {
		value := x.Value[:cap(x.Value)]
		if behind := value[len(x.Value):]; !bytes.Equal(behind, make([]byte, len(behind))) {
			t.Fatalf("behind the value of %q stands %v", x.Key, behind)
		}
		for i := range value {
			value[i] = 0xdd
		}
	}
	for _, x := range l[len(l):cap(l)] {
		if !equal(x, api.Entry{}) {
			t.Fatalf("behind a list stands %q", x.Key)
		}
	}
	l = l[:cap(l)]
	for i := range l {
		l[i] = api.Entry{Key: "wiped"}
	}
}

// R3: what was answered is new memory: what is written into it leaves all else as it was.
func TestAnswersStay(t *testing.T) {
	w := blank(t)
	keys := in(3, count, 4)
	w.fill(t)
	w.set(t, one(keys[0], 100))
	w.set(t, one(keys[1], 90))
	all, err := w.s.All()
	done(t, err)
	want := clones(all)
	for range 2 {
		x, ok, err := w.s.Get(keys[1])
		if !ok || !equal(x, one(keys[1], 90)) {
			t.Fatal(x, ok, err)
		}
		wipe(t, []api.Entry{x})
		l, err := w.s.All()
		done(t, err)
		wipe(t, l)
		w.check(t)
	}
	gone, err := w.s.Set(one(keys[2], 100))
	done(t, err)
	wantGone := w.m.set(one(keys[2], 100))
	same(t, "gone", gone, wantGone)
	wipe(t, gone)
	w.check(t)
	same(t, "All", all, want)
	done(t, w.s.Clear())
	same(t, "All", all, want)
}

// P10: what is answered hangs on the calls alone: two devices to which the same is done are the same, however often they are asked.
func TestAgain(t *testing.T) {
	a, b := &run{world: blank(t), r: rand.New(rand.NewPCG(7, 13))}, &run{world: blank(t), r: rand.New(rand.NewPCG(7, 13))}
	for range 400 {
		a.step(t)
		b.step(t)
		b.check(t)
		wantCells(t, a.f.Cells(), b.f.Cells())
		if a.f.Done() != b.f.Done() || a.k.Next() != b.k.Next() {
			t.Fatal("they are unlike")
		}
	}
	a.check(t)
}

// P0 and 13.1: whatever stands in a page, and whatever bytes a bucket's leaf has: the buckets open, and have what bucket.Read reads.
func FuzzPage(f *testing.F) {
	f.Add([]byte{}, true)
	f.Add(letters(one("a", 3), one("b", 4)), true)
	f.Add(letters(one("a", 3), one("a", 4)), true)
	f.Add(page(7, api.KindBucket, letters(one("a", 3))), false)
	f.Add(page(7, api.KindFoot, letters(one("a", 3))), false)
	f.Fuzz(func(t *testing.T, b []byte, leaf bool) {
		w := blank(t)
		w.m = make(model, 1)
		p := make([]byte, api.Page)
		copy(p, b)
		if leaf {
			b = b[:min(len(b), room)]
			p = page(7, api.KindBucket, b)
			w.m[0], _ = bucket.Read(b)
		}
		w.lay(t, base, p)
		w.open(t)
		if x, err := w.k.Get(base, api.KindBucket); err == nil && !leaf {
			w.m[0], _ = bucket.Read(x.Bytes)
		}
		w.check(t)
		if w.k.Next() <= api.MaxNum {
			w.set(t, one("a", 3))
			w.remove(t, "b")
			w.check(t)
		}
	})
}

// P0: whatever is set, removed or purged: it is refused, or as the chapter says.
func FuzzCalls(f *testing.F) {
	f.Add("k", 3, 5, 9, []byte("ab"), "k", uint64(7), 3)
	f.Add("", 0, 0, 0, []byte{}, "", uint64(0), 0)
	f.Add("a", 1, 1, 0, make([]byte, 227), "a", hashOf("a"), 2)
	f.Add("c", math.MaxInt, math.MinInt, -1, make([]byte, api.MaxValue+1), "\xff", uint64(math.MaxUint64), math.MinInt)
	f.Fuzz(func(t *testing.T, key string, version, asOf, ends int, value []byte, other string, hash uint64, asof int) {
		w := blank(t)
		w.set(t, one("a", 60))
		w.set(t, one("k", 60))
		x := api.Entry{Key: key, Version: version, AsOf: asOf, Ends: ends, Value: value}
		if item.Check(x) == nil && sizeOf(x) <= room {
			w.set(t, x)
		} else {
			was := w.state()
			_, _, want := bucket.Insert(w.m[slotOf(key, count)], x)
			gone, err := w.s.Set(x)
			wantFault(t, "Set", err, want, want != nil && len(gone) == 0)
			w.wantState(t, was)
		}
		w.check(t)
		w.purge(t, hash, asof)
		w.purge(t, hashOf(other), asof)
		w.remove(t, other)
		w.check(t)
	})
}
