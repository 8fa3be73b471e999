package bucket_test

import (
	"bytes"
	"math"
	"math/big"
	"math/rand/v2"
	"slices"
	"strconv"
	"strings"
	"testing"

	"buttery/api"
	"buttery/bloom"
	"buttery/bucket"
	"buttery/item"
	"buttery/trouble"
)

// The calls with the signatures that the chapter lists.
var (
	_ func([]byte) ([]api.Entry, error)                              = bucket.Read
	_ func([]api.Entry, string) int                                  = bucket.Find
	_ func(...api.Entry) int                                         = bucket.Size
	_ func([]api.Entry, api.Entry) ([]api.Entry, []api.Entry, error) = bucket.Insert
	_ func([]api.Entry, string) ([]api.Entry, bool)                  = bucket.Remove
	_ func([]api.Entry) bloom.Filter                                 = bucket.Filter
)

// room is how many bytes a page has for entries.
const room = 233

// digits is a number in bytes of seven bits, by the words of chapter 2 alone.
func digits(n int) []byte {
	b := []byte{byte(n % 128)}
	for n /= 128; n > 0; n /= 128 {
		b = append([]byte{byte(n%128) + 128}, b...)
	}
	return b
}

// letters is the bytes of entries, one behind the other, by the words of chapter 6 alone.
func letters(l ...api.Entry) []byte {
	var b []byte
	for _, x := range l {
		b = slices.Concat(b,
			digits(len(x.Key)), []byte(x.Key),
			digits(x.Version), digits(x.AsOf), digits(x.Ends),
			digits(len(x.Value)), x.Value,
		)
	}
	return b
}

// sizeOf is how many bytes entries take, by the same words.
func sizeOf(l ...api.Entry) int { return len(letters(l...)) }

// modelWithout is entries without the key's own.
func modelWithout(l []api.Entry, key string) []api.Entry {
	return slices.DeleteFunc(slices.Clone(l), func(x api.Entry) bool { return x.Key == key })
}

// modelInsert is 12.3 by its words alone, of an entry that may be, and has room: what is left, and what went.
func modelInsert(l []api.Entry, x api.Entry) (left, gone []api.Entry) {
	left = append(modelWithout(l, x.Key), x)
	for sizeOf(left...) > room {
		gone = append(gone, left[0])
		left = left[1:]
	}
	return left, gone
}

// modelFilter is which of the 128 bits are set of a filter of keys, by the words of chapter 7, in numbers of any size.
func modelFilter(l []api.Entry) *big.Int {
	f := new(big.Int)
	for _, x := range l {
		h := new(big.Int).SetUint64(bloom.Hash(x.Key))
		for _, down := range []uint{0, 21, 42} {
			k := new(big.Int).Mod(new(big.Int).Rsh(h, down), big.NewInt(128))
			f.SetBit(f, int(k.Int64()), 1)
		}
	}
	return f
}

// one is an entry with a value of so many bytes.
func one(key string, n int) api.Entry {
	return api.Entry{Key: key, Version: 1, AsOf: 1, Value: bytes.Repeat([]byte{byte(n) + 1}, n)}
}

// sized is an entry of just so many bytes in all. (No entry with a key of one byte has 134: from 128 bytes on a value's length takes a byte more.)
func sized(t *testing.T, key string, size int) api.Entry {
	t.Helper()
	for n := max(size-len(key)-6, 0); n < size; n++ {
		if x := one(key, n); sizeOf(x) == size {
			return x
		}
	}
	t.Fatalf("no entry of %q has %d bytes", key, size)
	return api.Entry{}
}

// several is entries of so many bytes each, of the keys a, b, and so on.
func several(t *testing.T, sizes ...int) []api.Entry {
	t.Helper()
	var l []api.Entry
	for i, size := range sizes {
		l = append(l, sized(t, string(rune('a'+i)), size))
	}
	return l
}

// unlike is entries of all kinds that may be, each with a key of its own; they take more than a page has.
func unlike() []api.Entry {
	return []api.Entry{
		{Key: "a", Version: 1, AsOf: 1},
		{Key: "b", Version: 3, AsOf: 5, Ends: 9, Value: []byte("ab")},
		{Key: "A", Version: 1, AsOf: 1, Value: []byte{}},
		{Key: "aa", Version: 128, AsOf: 300, Ends: 1 << 21, Value: []byte{0}},
		{Key: "\x00", Version: 1, AsOf: api.MaxNum},
		{Key: "\xff\xfe", Version: api.MaxNum, AsOf: api.MaxNum, Ends: api.MaxNum, Value: bytes.Repeat([]byte{255}, 127)},
		{Key: "käse", Version: 7, AsOf: 7, Value: bytes.Repeat([]byte{7}, 128)},
		{Key: strings.Repeat("k", api.MaxKey), Version: 2, AsOf: 4, Value: bytes.Repeat([]byte{1}, api.MaxValue)},
		{Key: strings.Repeat("k", api.MaxKey-1), Version: 2, AsOf: 4},
	}
}

// bad is entries that may not be, each for one cause.
func bad() []api.Entry {
	key, long, version, highVersion, asOf, highAsOf, ends, highEnds, value := one("a", 1), one("a", 1), one("a", 1), one("a", 1), one("a", 1), one("a", 1), one("a", 1), one("a", 1), one("a", 1)
	key.Key, long.Key = "", strings.Repeat("a", api.MaxKey+1)
	version.Version, version.AsOf = 0, 0
	highVersion.Version, highVersion.AsOf = api.MaxNum+1, api.MaxNum+1
	asOf.Version = 2
	highAsOf.AsOf = api.MaxNum + 1
	ends.Ends, highEnds.Ends = -1, api.MaxNum+1
	value.Value = make([]byte, api.MaxValue+1)
	return []api.Entry{key, long, version, highVersion, asOf, highAsOf, ends, highEnds, value}
}

// keys is the keys of entries.
func keys(l []api.Entry) []string {
	var out []string
	for _, x := range l {
		out = append(out, x.Key)
	}
	return out
}

// clones is entries in new memory, without asking the program.
func clones(l []api.Entry) []api.Entry {
	out := slices.Clone(l)
	for i, x := range out {
		out[i].Value = slices.Clone(x.Value)
	}
	return out
}

// equal tells whether two entries are the same, without asking the program.
func equal(a, b api.Entry) bool {
	return a.Key == b.Key && a.Version == b.Version && a.AsOf == b.AsOf && a.Ends == b.Ends && string(a.Value) == string(b.Value)
}

// same fails if two lists of entries are unlike.
func same(t *testing.T, call string, got, want []api.Entry) {
	t.Helper()
	if !slices.EqualFunc(got, want, equal) {
		t.Fatalf("%s: %q, want %q", call, keys(got), keys(want))
	}
}

// insert fails if what is left of an insert, or what went, is not as it should be, or the list that it was given is not as it was.
func insert(t *testing.T, l []api.Entry, x api.Entry, left, gone []api.Entry) {
	t.Helper()
	was, wasX := clones(l), clones([]api.Entry{x})
	gotLeft, gotGone, err := bucket.Insert(l, x)
	if err != nil {
		t.Fatalf("Insert(%q, %q): %v", keys(l), x.Key, err)
	}
	same(t, "left", gotLeft, left)
	same(t, "gone", gotGone, gone)
	same(t, "given", l, was)
	same(t, "inserted", []api.Entry{x}, wasX)
}

// refused fails if an insert is not refused with a code, or answers anything beside that.
func refused(t *testing.T, l []api.Entry, x api.Entry, code api.Code) error {
	t.Helper()
	was := clones(l)
	left, gone, err := bucket.Insert(l, x)
	if len(left) != 0 || len(gone) != 0 || trouble.Of(err) != code {
		t.Fatalf("Insert(%q, %q): %q, %q, %v, want code %d", keys(l), x.Key, keys(left), keys(gone), err, code)
	}
	same(t, "given", l, was)
	return err
}

// unread fails if bytes are not refused with a code, or anything is answered beside that.
func unread(t *testing.T, b []byte, code api.Code) error {
	t.Helper()
	l, err := bucket.Read(b)
	if len(l) != 0 || trouble.Of(err) != code {
		t.Fatalf("Read(%v): %q, %v, want code %d", b, keys(l), err, code)
	}
	return err
}

// The chapter's example: three of 106 bytes, one behind the other: the first one goes.
func TestExample(t *testing.T) {
	l := several(t, 106, 106, 106)
	insert(t, nil, l[0], l[:1], nil)
	insert(t, l[:1], l[1], l[:2], nil)
	insert(t, l[:2], l[2], l[1:], l[:1])
	if n := bucket.Size(l[1:]...); n != 212 {
		t.Error(n)
	}
}

// 12.1: what entries are as bytes is read as these: none, one, many, in order, also more than a page has.
func TestRead(t *testing.T) {
	l := unlike()
	for n := range len(l) + 1 {
		for from := range n + 1 {
			got, err := bucket.Read(letters(l[from:n]...))
			if err != nil {
				t.Fatal(err)
			}
			same(t, "Read", got, l[from:n])
		}
	}
	for _, b := range [][]byte{nil, {}} {
		if got, err := bucket.Read(b); len(got) != 0 || err != nil {
			t.Errorf("%v, %v", got, err)
		}
	}
}

// 12.1: letters that item.Read refuses: its error, link by link, whatever is wrong, and behind how many.
func TestReadRefuses(t *testing.T) {
	k, long := one("k", 2), one(strings.Repeat("k", api.MaxKey+1), 0)
	wrong := []struct {
		b    []byte
		code api.Code
	}{
		{[]byte{0, 1, 1, 0, 0}, api.ErrArg},
		{[]byte{128}, api.ErrForm},
		{[]byte{1}, api.ErrShort},
		{letters(k)[:5], api.ErrShort},
		{letters(long), api.ErrRange},
		{[]byte{1, 'k', 0, 0, 0, 0}, api.ErrRange},
		{[]byte{1, 'k', 2, 1, 0, 0}, api.ErrRange},
		{[]byte{1, 'k', 1, 1, 128, 1, 0}, api.ErrForm},
		{slices.Concat([]byte{1, 'k', 1, 1}, digits(api.MaxNum+1), []byte{0}), api.ErrRange},
		{slices.Concat([]byte{1, 'k', 1, 1, 0}, digits(api.MaxValue+1), make([]byte, api.MaxValue+1)), api.ErrRange},
		{make([]byte, room), api.ErrArg},
	}
	for _, ahead := range [][]api.Entry{nil, {one("a", 0)}, unlike()} {
		for _, w := range wrong {
			b := slices.Concat(letters(ahead...), w.b)
			err := unread(t, b, w.code)
			_, want := item.Read(b)
			if !slices.Equal(trouble.Chain(err), trouble.Chain(want)) {
				t.Errorf("%v, want %v", err, want)
			}
		}
	}
}

// 12.1: cut off anywhere but between two of them, entries are too short.
func TestReadCutOff(t *testing.T) {
	l := several(t, 50, 60, 70, 53)
	b := letters(l...)
	for n := range b {
		whole := 0
		for sizeOf(l[:whole+1]...) <= n {
			whole++
		}
		if sizeOf(l[:whole]...) != n {
			unread(t, b[:n], api.ErrShort)
			continue
		}
		got, err := bucket.Read(b[:n])
		if err != nil {
			t.Fatal(err)
		}
		same(t, "Read", got, l[:whole])
	}
}

// 12.1: of entries of which two have one key, wherever they stand, and whatever else they have, nothing is read.
func TestReadTwice(t *testing.T) {
	l := unlike()
	for first := range l {
		for second := first + 1; second < len(l); second++ {
			twice := slices.Clone(l)
			twice[second].Key = twice[first].Key
			unread(t, letters(twice...), api.ErrTwice)
			twice[second] = twice[first]
			unread(t, letters(twice...), api.ErrTwice)
		}
	}
	for _, x := range l {
		unread(t, letters(x, x), api.ErrTwice)
		unread(t, letters(x, x, x), api.ErrTwice)
	}
}

// 12.1: keys that are nearly one are two.
func TestReadNearly(t *testing.T) {
	long := strings.Repeat("k", api.MaxKey-1)
	var l []api.Entry
	for _, key := range []string{"a", "A", "aa", "a\x00", "\x00a", "a ", "ä", "a\u0308", "\xe4", long + "k", long + "l", "l" + long, long} {
		l = append(l, one(key, 3))
	}
	got, err := bucket.Read(letters(l...))
	if err != nil {
		t.Fatal(err)
	}
	same(t, "Read", got, l)
}

// 12.1 and R6: what item.Read refuses is named first, also where two have one key ahead of it.
func TestReadFirstCause(t *testing.T) {
	x := one("a", 3)
	unread(t, slices.Concat(letters(x, x), []byte{1}), api.ErrShort)
	unread(t, slices.Concat(letters(x, x), []byte{128}), api.ErrForm)
	unread(t, slices.Concat(letters(x, x), []byte{0, 1, 1, 0, 0}), api.ErrArg)
	unread(t, letters(x, x)[:15], api.ErrShort)
}

// 12.1, P0: of very many entries it is soon known whether two have one key.
func TestReadMany(t *testing.T) {
	var l []api.Entry
	for i := range 200000 {
		l = append(l, one(strconv.Itoa(i), 0))
	}
	b := item.All(l)
	got, err := bucket.Read(b)
	if err != nil {
		t.Fatal(err)
	}
	same(t, "Read", got, l)
	for _, twice := range []string{"0", "199999", "77777"} {
		unread(t, slices.Concat(b, letters(one(twice, 0))), api.ErrTwice)
	}
}

// 12.2: a key's place: first, in the middle, last; of one alone.
func TestFind(t *testing.T) {
	l := unlike()
	for n := range len(l) + 1 {
		for i, x := range l {
			want := i
			if i >= n {
				want = -1
			}
			if got := bucket.Find(l[:n], x.Key); got != want {
				t.Errorf("%q of %d: %d, want %d", x.Key, n, got, want)
			}
		}
	}
}

// 12.2: of a key that is not there, or may not be, there is no place; of no entries neither.
func TestFindNone(t *testing.T) {
	l := unlike()
	for _, key := range []string{"", "c", "B", "ab", "aaa", "a\x00", "\x00\x00", "\xff", "kase", strings.Repeat("k", api.MaxKey-2), strings.Repeat("k", api.MaxKey+1), strings.Repeat("a", 5000)} {
		for _, m := range [][]api.Entry{nil, {}, l, l[:1]} {
			if got := bucket.Find(m, key); got != -1 {
				t.Errorf("%q of %d: %d", key, len(m), got)
			}
		}
	}
}

// 12.2: what lies behind a list's length is not found.
func TestFindBehind(t *testing.T) {
	l := several(t, 10, 10, 10)
	if got := bucket.Find(l[:2], "c"); got != -1 {
		t.Error(got)
	}
	if got := bucket.Find(l[1:], "b"); got != 0 {
		t.Error(got)
	}
}

// 12.2: how many bytes entries take: nothing, one, many, also more than a page has.
func TestSize(t *testing.T) {
	if bucket.Size() != 0 || bucket.Size(nil...) != 0 || bucket.Size([]api.Entry{}...) != 0 {
		t.Error("nothing takes some bytes")
	}
	l := unlike()
	for i, x := range l {
		if got := bucket.Size(x); got != sizeOf(x) || got != item.Size(x) {
			t.Errorf("%d: %d, want %d", i, got, sizeOf(x))
		}
		if got := bucket.Size(l[:i]...); got != sizeOf(l[:i]...) || got != len(item.All(l[:i])) {
			t.Errorf("the first %d: %d, want %d", i, got, sizeOf(l[:i]...))
		}
		if got := bucket.Size(x, l[0], x); got != sizeOf(x, l[0], x) {
			t.Errorf("%d twice: %d", i, got)
		}
	}
	if got := bucket.Size(one("a", 100), one("b", 0), one("c", 2)); got != 106+6+8 {
		t.Error(got)
	}
}

// 12.2: a number that takes a byte more counts for a byte more.
func TestSizeOfNumbers(t *testing.T) {
	for size, n := range []int{0: 1, 1: 1 << 7, 2: 1 << 14, 3: 1 << 21, 4: 1 << 28, 5: 1 << 35} {
		x := api.Entry{Key: "k", Version: n, AsOf: n, Ends: n}
		if got := bucket.Size(x); got != 6+3*size {
			t.Errorf("%d: %d", n, got)
		}
	}
}

// 12.3: what may not be has item.Check's error, link by link; the list is as it was.
func TestInsertBad(t *testing.T) {
	for _, l := range [][]api.Entry{nil, {one("a", 9)}, several(t, 100, 100, 33), unlike()} {
		for _, x := range bad() {
			want := item.Check(x)
			err := refused(t, l, x, trouble.Of(want))
			if want == nil || !slices.Equal(trouble.Chain(err), trouble.Chain(want)) {
				t.Errorf("%v, want %v", err, want)
			}
		}
	}
}

// 12.3 and R6: an entry that may not be, and takes more than a page has, may not be.
func TestInsertFirstCause(t *testing.T) {
	for _, x := range bad() {
		if len(x.Value) < room {
			x.Value = make([]byte, room)
		}
		err := refused(t, nil, x, trouble.Of(item.Check(x)))
		if !slices.Equal(trouble.Chain(err), trouble.Chain(item.Check(x))) {
			t.Error(err)
		}
	}
}

// 12.3: an entry that takes just 233 bytes has a page for itself; one of 234 has no room.
func TestInsertEdge(t *testing.T) {
	if api.Room != room {
		t.Fatal(api.Room)
	}
	for _, l := range [][]api.Entry{nil, {}, {one("a", 0)}, {one("x", 9)}, several(t, 100, 100, 33), {sized(t, "a", room)}} {
		x := sized(t, "x", room)
		insert(t, l, x, []api.Entry{x}, modelWithout(l, "x"))
		for _, size := range []int{room + 1, room + 2, 466, 1000, 4000} {
			refused(t, l, sized(t, "x", size), api.ErrSize)
		}
	}
}

// 12.3: at the edge it is all bytes that count, not the value's alone.
func TestInsertEdgeOfParts(t *testing.T) {
	long := strings.Repeat("k", api.MaxKey)
	for _, x := range []api.Entry{
		{Key: long, Version: 1, AsOf: 1, Value: make([]byte, 187)},
		{Key: "k", Version: api.MaxNum, AsOf: api.MaxNum, Ends: api.MaxNum, Value: make([]byte, 211)},
		{Key: long, Version: 127, AsOf: 128, Ends: 1 << 14, Value: make([]byte, 184)},
	} {
		if sizeOf(x) != room {
			t.Fatal(sizeOf(x))
		}
		insert(t, nil, x, []api.Entry{x}, nil)
		x.Value = append(x.Value, 0)
		refused(t, nil, x, api.ErrSize)
	}
	refused(t, nil, api.Entry{Key: "k", Version: 1, AsOf: 1, Value: make([]byte, api.MaxValue)}, api.ErrSize)
}

// 12.3: into no entries at all, and behind one.
func TestInsertFew(t *testing.T) {
	a, b := one("a", 3), api.Entry{Key: "b", Version: 3, AsOf: 5, Ends: 9, Value: []byte("ab")}
	for _, l := range [][]api.Entry{nil, {}} {
		insert(t, l, a, []api.Entry{a}, nil)
		insert(t, l, b, []api.Entry{b}, nil)
	}
	insert(t, []api.Entry{a}, b, []api.Entry{a, b}, nil)
	insert(t, []api.Entry{b}, a, []api.Entry{b, a}, nil)
}

// 12.3: the key's own, first, in the middle, last, or alone, is not left, nor did it go for room: the new one is behind.
func TestInsertOwn(t *testing.T) {
	l := several(t, 20, 30, 40, 50)
	for i := range l {
		x := api.Entry{Key: l[i].Key, Version: 7, AsOf: 9, Ends: 3, Value: []byte("new")}
		rest := slices.Concat(l[:i], l[i+1:])
		insert(t, l, x, append(rest, x), nil)
		insert(t, l[i:i+1], x, []api.Entry{x}, nil)
		insert(t, l, l[i], append(slices.Concat(l[:i], l[i+1:]), l[i]), nil)
	}
}

// 12.3: the key's own is out ahead of room being made: none goes for what it took.
func TestInsertOwnOfFull(t *testing.T) {
	l := several(t, 58, 58, 58, 59)
	if sizeOf(l...) != room {
		t.Fatal(sizeOf(l...))
	}
	for i := range l {
		rest := slices.Concat(l[:i], l[i+1:])
		for _, size := range []int{6, 40, sizeOf(l[i])} {
			x := sized(t, l[i].Key, size)
			insert(t, l, x, append(slices.Clone(rest), x), nil)
		}
		x := sized(t, l[i].Key, sizeOf(l[i])+1)
		insert(t, l, x, append(slices.Clone(rest[1:]), x), rest[:1])
		x = sized(t, l[i].Key, room)
		insert(t, l, x, []api.Entry{x}, rest)
	}
}

// 12.3: the key's own is replaced, whatever it is as of, and whether it has ended: a bucket asks for keys and room alone.
func TestInsertOwnAnyhow(t *testing.T) {
	newer := api.Entry{Key: "a", Version: 9, AsOf: 9, Value: []byte("newer")}
	older := api.Entry{Key: "a", Version: 1, AsOf: 1, Ends: 1, Value: []byte("older")}
	insert(t, []api.Entry{newer}, older, []api.Entry{older}, nil)
	insert(t, []api.Entry{older}, newer, []api.Entry{newer}, nil)
}

// 12.3, 12.6: what has just room has none go; a byte more has the eldest go, and that alone.
func TestRoomByNone(t *testing.T) {
	l := several(t, 100, 50, 40)
	for size := 6; size <= 43; size++ {
		x := sized(t, "x", size)
		insert(t, l, x, append(slices.Clone(l), x), nil)
	}
	x := sized(t, "x", 44)
	insert(t, l, x, append(slices.Clone(l[1:]), x), l[:1])
}

// 12.3, 12.6: room is made by as many of the eldest as must go, told in order, up to all.
func TestRoomByMany(t *testing.T) {
	l := several(t, 30, 10, 60, 40, 50, 43)
	for n := 1; n <= len(l); n++ {
		left := room - sizeOf(l[n:]...)
		x := sized(t, "x", left)
		insert(t, l, x, append(slices.Clone(l[n:]), x), l[:n])
		if n < len(l) {
			x = sized(t, "x", left+1)
			insert(t, l, x, append(slices.Clone(l[n+1:]), x), l[:n+1])
		}
	}
}

// 12.3, 12.6: the first one goes, though another one alone would make room, and though it is small.
func TestEldestGoes(t *testing.T) {
	l := several(t, 10, 200, 20)
	x := sized(t, "x", 13)
	insert(t, l, x, []api.Entry{l[1], l[2], x}, l[:1])
	x = sized(t, "x", 14)
	insert(t, l, x, []api.Entry{l[2], x}, l[:2])
	l = several(t, 200, 10, 20)
	x = sized(t, "x", 20)
	insert(t, l, x, []api.Entry{l[1], l[2], x}, l[:1])
}

// 12.3: a list that takes more than a page has, even by one entry of it, has the first ones go likewise.
func TestInsertIntoTooMany(t *testing.T) {
	x := one("x", 3)
	l := unlike()
	left, gone := modelInsert(l, x)
	if len(gone) != 8 || len(left) != 2 {
		t.Fatalf("%q, %q", keys(left), keys(gone))
	}
	insert(t, l, x, left, gone)
	huge := one("h", api.MaxValue)
	insert(t, []api.Entry{huge}, x, []api.Entry{x}, []api.Entry{huge})
	insert(t, []api.Entry{huge, one("a", 0)}, x, []api.Entry{one("a", 0), x}, []api.Entry{huge})
	insert(t, []api.Entry{one("a", 0), huge}, x, []api.Entry{x}, []api.Entry{one("a", 0), huge})
	insert(t, []api.Entry{one("a", 0), huge, one("b", 0)}, one("h", 1), []api.Entry{one("a", 0), one("b", 0), one("h", 1)}, nil)
}

// 12.3, P0: of very many entries all go that must, soon.
func TestInsertIntoMany(t *testing.T) {
	var l []api.Entry
	for i := range 100000 {
		l = append(l, one(strconv.Itoa(100000+i), 0))
	}
	x := one("x", 0)
	left, gone, err := bucket.Insert(l, x)
	if err != nil {
		t.Fatal(err)
	}
	same(t, "left", left, append(slices.Clone(l[len(l)-20:]), x))
	same(t, "gone", gone, l[:len(l)-20])
	if m, ok := bucket.Remove(l, "155555"); !ok || len(m) != len(l)-1 || bucket.Size(m...) != 11*(len(l)-1) {
		t.Errorf("%d, %v", len(m), ok)
	}
}

// 12.4: without the key's own, first, in the middle, last, or alone; the others stay, in order.
func TestRemove(t *testing.T) {
	l := unlike()
	was := clones(l)
	for n := 1; n <= len(l); n++ {
		for i := range n {
			got, ok := bucket.Remove(l[:n], l[i].Key)
			if !ok {
				t.Errorf("%q of %d: none", l[i].Key, n)
			}
			same(t, "left", got, slices.Concat(l[:i], l[i+1:n]))
			same(t, "given", l, was)
			if bucket.Find(got, l[i].Key) != -1 {
				t.Errorf("%q is still there", l[i].Key)
			}
		}
	}
}

// 12.4: without a key that there is not, or that may not be, a list is as it was.
func TestRemoveNone(t *testing.T) {
	l := unlike()
	was := clones(l)
	for _, key := range []string{"", "c", "B", "ab", "aaa", "a\x00", "\xff", strings.Repeat("k", api.MaxKey-2), strings.Repeat("k", api.MaxKey+1)} {
		for _, m := range [][]api.Entry{nil, {}, l[:1], l} {
			got, ok := bucket.Remove(m, key)
			if ok {
				t.Errorf("%q of %d: there was one", key, len(m))
			}
			same(t, "left", got, m)
		}
	}
	same(t, "given", l, was)
}

// 12.5: the filter of no entries has none in it; that of some has the bits of just their keys.
func TestFilter(t *testing.T) {
	if bucket.Filter(nil) != (bloom.Filter{}) || bucket.Filter([]api.Entry{}) != (bloom.Filter{}) {
		t.Error("something is in nothing's filter")
	}
	l := unlike()
	for n := range len(l) + 1 {
		for from := range n + 1 {
			m := l[from:n]
			f := bucket.Filter(m)
			if f != bloom.Of(keys(m)...) {
				t.Errorf("%q: %v", keys(m), f)
			}
			want := modelFilter(m)
			for k := range 128 {
				if uint(f[k/64]>>(k%64)&1) != want.Bit(k) {
					t.Errorf("%q: bit %d", keys(m), k)
				}
			}
			for _, x := range m {
				if !f.May(bloom.Hash(x.Key)) {
					t.Errorf("%q may not be in it", x.Key)
				}
			}
		}
	}
}

// 12.5: a filter is of the keys alone, and of these in any order.
func TestFilterOfKeysAlone(t *testing.T) {
	l := unlike()
	want := bucket.Filter(l)
	slices.Reverse(l)
	for i := range l {
		l[i].Version, l[i].AsOf, l[i].Ends, l[i].Value = i+1, i+2, i, []byte("other")
	}
	if got := bucket.Filter(l); got != want {
		t.Errorf("%v, want %v", got, want)
	}
	if a, b := bucket.Filter(l[:1]), bucket.Filter(l[1:2]); a == b || a.May(bloom.Hash(l[1].Key)) {
		t.Errorf("%v, %v", a, b)
	}
}

// 12.6: what is left and what went is what there was, in order; it has room, and would not with the last one that went.
func TestNoMoreThanMust(t *testing.T) {
	sizes := []int{6, 7, 46, 58, 59, 77, 116, 117, 228, room}
	for _, a := range sizes {
		for _, b := range sizes {
			for _, c := range sizes {
				l := several(t, a, b, c)
				for _, size := range sizes {
					for _, key := range []string{"a", "b", "c", "x"} {
						x := sized(t, key, size)
						left, gone, err := bucket.Insert(l, x)
						if err != nil {
							t.Fatal(err)
						}
						same(t, "all", slices.Concat(gone, left), append(modelWithout(l, key), x))
						if sizeOf(left...) > room || len(gone) > 0 && sizeOf(append(left, gone[len(gone)-1])...) <= room {
							t.Fatalf("of %d, %d, %d for %d: %q went, %q are left", a, b, c, size, keys(gone), keys(left))
						}
					}
				}
			}
		}
	}
}

// drawnEntry is an entry as if by chance, seldom one that may not be, or takes more than a page has.
func drawnEntry(r *rand.Rand) api.Entry {
	x := api.Entry{Key: strconv.Itoa(r.IntN(12)), Version: r.IntN(300) + 1, Ends: r.IntN(200), Value: make([]byte, r.IntN(60))}
	x.AsOf = x.Version + r.IntN(1<<r.IntN(30))
	for i := range x.Value {
		x.Value[i] = byte(r.Uint32())
	}
	switch r.IntN(40) {
	case 0:
		x.Key = ""
	case 1:
		x.Version = x.AsOf + 1
	case 2:
		x.Value = make([]byte, 220+r.IntN(10))
	case 3:
		x.Value = make([]byte, r.IntN(300))
	}
	return x
}

// All promises: long rows of inserts and removes, each behind the other, held against the chapter's words; there and back.
func TestAgainstModel(t *testing.T) {
	for seed := range uint64(60) {
		r := rand.New(rand.NewPCG(seed, 12))
		var l, model []api.Entry
		for range 300 {
			key := strconv.Itoa(r.IntN(13))
			if r.IntN(3) == 0 {
				got, ok := bucket.Remove(l, key)
				if ok != slices.Contains(keys(model), key) {
					t.Fatalf("Remove(%q): %v", key, ok)
				}
				l, model = got, modelWithout(model, key)
			} else if x := drawnEntry(r); item.Check(x) != nil {
				refused(t, l, x, trouble.Of(item.Check(x)))
			} else if sizeOf(x) > room {
				refused(t, l, x, api.ErrSize)
			} else {
				left, gone := modelInsert(model, x)
				gotLeft, gotGone, err := bucket.Insert(l, x)
				if err != nil {
					t.Fatal(err)
				}
				same(t, "gone", gotGone, gone)
				l, model = gotLeft, left
			}
			held(t, l, model, key)
		}
	}
}

// held holds all that can be asked of entries against what they should be, and a key's place.
func held(t *testing.T, l, want []api.Entry, key string) {
	t.Helper()
	same(t, "entries", l, want)
	if got := bucket.Find(l, key); got != slices.Index(keys(want), key) {
		t.Fatalf("Find(%q): %d of %q", key, got, keys(want))
	}
	if n := bucket.Size(l...); n != sizeOf(want...) || n > room {
		t.Fatalf("Size: %d, want %d", n, sizeOf(want...))
	}
	if f := bucket.Filter(l); f != bloom.Of(keys(want)...) {
		t.Fatalf("Filter of %q: %v", keys(want), f)
	}
	back, err := bucket.Read(item.All(l))
	if err != nil {
		t.Fatal(err)
	}
	same(t, "there and back", back, want)
}

// within is a list of entries in the midst of others, which no call may read, write or hand out; so are their values.
func within(l []api.Entry) (list, whole []api.Entry, values [][]byte) {
	other := api.Entry{Key: "other", Version: 5, AsOf: 5, Value: []byte("other")}
	whole = []api.Entry{other}
	for _, x := range l {
		value := bytes.Repeat([]byte{0xee}, len(x.Value)+40)
		copy(value[4:], x.Value)
		x.Value = value[4 : 4+len(x.Value)]
		whole, values = append(whole, x), append(values, value)
	}
	for range 20 {
		whole = append(whole, other)
	}
	return whole[1 : 1+len(l)], whole, values
}

// R3: what is handed in is not changed, nor is what lies around it in its memory; what lies there is not to be seen.
func TestHandedInStays(t *testing.T) {
	full := several(t, 100, 60, 73)
	for _, l := range [][]api.Entry{nil, full[:1], full, unlike()} {
		for _, x := range append(bad(), one("a", 3), one("b", 3), one("other", 3), sized(t, "x", room), sized(t, "x", room+1)) {
			list, whole, values := within(l)
			was := clones(whole)
			var wasValues [][]byte
			for _, v := range values {
				wasValues = append(wasValues, slices.Clone(v))
			}
			given, wholeX, _ := within([]api.Entry{x})
			wasX := clones(wholeX)
			left, gone, err := bucket.Insert(list, given[0])
			if (err == nil) != (item.Check(x) == nil && sizeOf(x) <= room) {
				t.Fatal(err)
			}
			if err == nil {
				wantLeft, wantGone := modelInsert(l, x)
				same(t, "left", left, wantLeft)
				same(t, "gone", gone, wantGone)
			}
			bucket.Remove(list, x.Key)
			bucket.Find(list, x.Key)
			bucket.Filter(list)
			bucket.Size(list...)
			same(t, "around", whole, was)
			same(t, "around x", wholeX, wasX)
			if !slices.EqualFunc(values, wasValues, bytes.Equal) {
				t.Fatal("what lies around a value was changed")
			}
		}
	}
}

// R3: bytes that are handed in are not changed, and what lies behind their length is not read.
func TestBytesStay(t *testing.T) {
	l := several(t, 50, 60)
	whole := letters(append(l, l...)...)
	was := slices.Clone(whole)
	got, err := bucket.Read(whole[:110])
	if err != nil {
		t.Fatal(err)
	}
	same(t, "Read", got, l)
	unread(t, whole, api.ErrTwice)
	unread(t, whole[:109], api.ErrShort)
	if !bytes.Equal(whole, was) {
		t.Error("bytes were changed")
	}
}

// wipe writes over entries, their values, and what lies behind each of these in its memory.
func wipe(l []api.Entry) {
	for _, x := range l {
		value := x.Value[:cap(x.Value)]
		for i := range value {
			value[i] = 0xdd
		}
	}
	l = l[:cap(l)]
	for i := range l {
		l[i] = api.Entry{Key: "wiped"}
	}
}

// R3: what was answered is new memory: what is written into anything else leaves it as it was.
func TestAnswersStay(t *testing.T) {
	for _, x := range []api.Entry{sized(t, "x", 20), sized(t, "x", 150), sized(t, "b", 60), sized(t, "a", 20), sized(t, "x", room)} {
		base := several(t, 70, 60, 50, 53)
		wantLeft, wantGone := modelInsert(clones(base), clones([]api.Entry{x})[0])
		wantLeft, wantGone = clones(wantLeft), clones(wantGone)
		wantRest, wantAll := clones(modelWithout(base, "b")), clones(base)

		left, gone, err := bucket.Insert(base, x)
		otherLeft, otherGone, otherErr := bucket.Insert(base, x)
		if err != nil || otherErr != nil {
			t.Fatal(err, otherErr)
		}
		rest, _ := bucket.Remove(base, "b")
		otherRest, _ := bucket.Remove(base, "b")
		all, _ := bucket.Remove(base, "none")
		wipe(base)
		wipe([]api.Entry{x})
		wipe(otherRest)
		wipe(otherLeft)
		same(t, "gone, beside left", otherGone, wantGone)
		wipe(otherGone)
		same(t, "left", left, wantLeft)
		same(t, "gone", gone, wantGone)
		same(t, "rest", rest, wantRest)
		same(t, "all", all, wantAll)
		wipe(gone)
		same(t, "left, beside gone", left, wantLeft)
	}
}

// R3: what is put behind those that went is not to be seen in those that are left.
func TestAppendToGone(t *testing.T) {
	l := several(t, 100, 60, 73)
	left, gone, err := bucket.Insert(l, one("x", 3))
	if err != nil || len(gone) != 1 {
		t.Fatal(gone, err)
	}
	_ = append(gone, one("y", 0), one("z", 0), one("w", 0))
	same(t, "left", left, append(slices.Clone(l[1:]), one("x", 3)))
}

// R3: behind the lists that are answered, and behind their values, there is nothing.
func TestNothingBehind(t *testing.T) {
	l := several(t, 100, 60, 73)
	list, _, _ := within(l)
	left, gone, err := bucket.Insert(list, one("x", 3))
	if err != nil {
		t.Fatal(err)
	}
	without, _ := bucket.Remove(list, "b")
	all, _ := bucket.Remove(list, "none")
	read, err := bucket.Read(letters(l...))
	if err != nil {
		t.Fatal(err)
	}
	for i, m := range [][]api.Entry{left, gone, without, all, read} {
		for _, x := range m[len(m):cap(m)] {
			if !equal(x, api.Entry{}) {
				t.Errorf("behind list %d stands %q", i, x.Key)
			}
		}
		for _, x := range m {
			behind := x.Value[len(x.Value):cap(x.Value)]
			if !bytes.Equal(behind, make([]byte, len(behind))) {
				t.Errorf("behind the value of %q stands %v", x.Key, behind)
			}
		}
	}
}

// P10: what is answered hangs on the arguments alone, whatever was asked ahead.
func TestAgain(t *testing.T) {
	l := several(t, 100, 60, 73)
	x := one("x", 3)
	wantLeft, wantGone := modelInsert(l, x)
	for _, y := range append(bad(), unlike()...) {
		bucket.Insert(unlike(), y)
		bucket.Read([]byte{128})
		bucket.Remove(l, y.Key)
		insert(t, l, x, wantLeft, wantGone)
		got, err := bucket.Read(letters(l...))
		if err != nil {
			t.Fatal(err)
		}
		same(t, "Read", got, l)
	}
}

// P0: no bytes whatever have a call panic; what can be read is what item.Read reads, with each key once.
func FuzzRead(f *testing.F) {
	f.Add([]byte{})
	f.Add(letters(unlike()...))
	f.Add(letters(one("a", 3), one("a", 3)))
	f.Add(letters(one("a", 3), one("b", 3), one("a", 0)))
	f.Add(append(letters(one("a", 3), one("a", 3)), 128))
	f.Fuzz(func(t *testing.T, b []byte) {
		want, wantErr := item.Read(b)
		l, err := bucket.Read(b)
		all := keys(want)
		slices.Sort(all)
		switch {
		case wantErr != nil:
			if len(l) != 0 || trouble.Text(err) != trouble.Text(wantErr) {
				t.Errorf("%q, %v, want %v", keys(l), err, wantErr)
			}
		case len(slices.Compact(all)) < len(want):
			if len(l) != 0 || trouble.Of(err) != api.ErrTwice {
				t.Errorf("%q, %v", keys(l), err)
			}
		default:
			if err != nil {
				t.Fatal(err)
			}
			same(t, "Read", l, want)
		}
	})
}

// P0: whatever entry is to be inserted, into whatever a bucket's bytes are: it is refused, or as the chapter says.
func FuzzInsert(f *testing.F) {
	f.Add(letters(unlike()...), "k", 3, 5, 9, []byte("ab"))
	f.Add([]byte{}, "", 0, 0, 0, []byte{})
	f.Add(letters(one("a", 100), one("b", 100)), "a", 1, 1, 0, make([]byte, 100))
	f.Add(letters(one("a", 100), one("b", 100)), "c", math.MaxInt, math.MinInt, -1, make([]byte, api.MaxValue+1))
	f.Fuzz(func(t *testing.T, b []byte, key string, version, asOf, ends int, value []byte) {
		l, err := bucket.Read(b)
		if err != nil {
			return
		}
		x := api.Entry{Key: key, Version: version, AsOf: asOf, Ends: ends, Value: value}
		if err := item.Check(x); err != nil {
			refused(t, l, x, trouble.Of(err))
			return
		}
		if sizeOf(x) > room {
			refused(t, l, x, api.ErrSize)
			return
		}
		left, gone := modelInsert(l, x)
		insert(t, l, x, left, gone)
		rest, ok := bucket.Remove(l, key)
		same(t, "Remove", rest, modelWithout(l, key))
		if ok != (len(rest) < len(l)) || ok != (bucket.Find(l, key) >= 0) {
			t.Errorf("Remove(%q): %v", key, ok)
		}
	})
}
