package item_test

import (
	"bytes"
	"errors"
	"math"
	"slices"
	"strings"
	"testing"

	"buttery/api"
	"buttery/item"
	"buttery/octets"
	"buttery/trouble"
)

// The calls with the signatures that the chapter lists.
var (
	_ func(api.Entry) error             = item.Check
	_ func([]byte, api.Entry) []byte    = item.Put
	_ func(api.Entry) int               = item.Size
	_ func(*octets.Reader) api.Entry    = item.From
	_ func([]byte) ([]api.Entry, error) = item.Read
	_ func([]api.Entry) []byte          = item.All
	_ func(api.Entry, int) bool         = item.Live
	_ func(api.Entry, api.Entry) bool   = item.Same
	_ func(api.Entry) api.Entry         = item.Copy
)

// numbers is numbers that may be: both ends, and both sides of where a number takes one byte more.
var numbers = []int{1, 2, 9, 127, 128, 129, 300, 1<<14 - 1, 1 << 14, 1<<21 - 1, 1 << 21, 1<<28 - 1, 1 << 28, 1<<35 - 1, 1 << 35, api.MaxNum - 1, api.MaxNum}

// tooMuch is numbers beyond the greatest one.
var tooMuch = []int{api.MaxNum + 1, api.MaxNum + 2, 2 * api.MaxNum, 1<<42 - 1, 1 << 42, math.MaxInt - 1, math.MaxInt}

// below is numbers below 0.
var below = []int{-1, -2, -127, -128, -api.MaxNum, math.MinInt + 1, math.MinInt}

// keys is keys that may be, some of them with bytes that are no text.
var keys = []string{"k", "ab", "\x00", "\xff\xfe", "käse", strings.Repeat("k", api.MaxKey-1), strings.Repeat("\x80", api.MaxKey)}

// sizes is how many bytes a value may have.
var sizes = []int{0, 1, 2, 40, 41, 127, 128, 233, 1000, api.MaxValue - 1, api.MaxValue}

// drawn is so many bytes as if by chance, the same ones at each run.
func drawn(size int, seed uint64) []byte {
	b := make([]byte, size)
	for i := range b {
		seed = seed*6364136223846793005 + 1442695040888963407
		b[i] = byte(seed >> 56)
	}
	return b
}

// example is the entry of the chapter's example.
func example() api.Entry {
	return api.Entry{Key: "k", Version: 3, AsOf: 5, Ends: 9, Value: []byte("ab")}
}

// exampleBytes is what the example's eight bytes are.
func exampleBytes() []byte { return []byte{1, 'k', 3, 5, 9, 2, 'a', 'b'} }

// each calls a function with entries that may be: all keys, versions with all that are not below them, ends, sizes.
func each(call func(x api.Entry)) {
	for i, version := range numbers {
		for j, asOf := range numbers[i:] {
			key := keys[(i+j)%len(keys)]
			size := sizes[(3*i+j)%len(sizes)]
			call(api.Entry{Key: key, Version: version, AsOf: asOf, Ends: numbers[j], Value: drawn(size, uint64(i))})
			call(api.Entry{Key: key, Version: version, AsOf: asOf})
		}
	}
	for _, key := range keys {
		for _, size := range sizes {
			call(api.Entry{Key: key, Version: 1, AsOf: 1, Value: drawn(size, uint64(size))})
		}
	}
}

// digits is a number in bytes of seven bits, by the words of chapter 2 alone.
func digits(n int) []byte {
	b := []byte{byte(n % 128)}
	for n /= 128; n > 0; n /= 128 {
		b = append([]byte{byte(n%128) + 128}, b...)
	}
	return b
}

// written is an entry's bytes, by the chapter's words alone; the entry may be such as may not be.
func written(x api.Entry) []byte {
	return slices.Concat(
		digits(len(x.Key)), []byte(x.Key),
		digits(x.Version), digits(x.AsOf), digits(x.Ends),
		digits(len(x.Value)), x.Value,
	)
}

// equal tells whether two entries are the same, without asking the program.
func equal(a, b api.Entry) bool {
	return a.Key == b.Key && a.Version == b.Version && a.AsOf == b.AsOf && a.Ends == b.Ends && string(a.Value) == string(b.Value)
}

// zero tells whether an entry is none.
func zero(x api.Entry) bool { return equal(x, api.Entry{}) }

// wantChain holds an error against the links that it should have.
func wantChain(t *testing.T, err error, want ...api.Step) {
	t.Helper()
	if got := trouble.Chain(err); !slices.Equal(got, want) {
		t.Errorf("got %v, want %v", got, want)
	}
	code := want[len(want)-1].Code
	if trouble.Of(err) != code || !errors.Is(err, trouble.New("", 0, code)) {
		t.Errorf("%v is not of code %d", err, code)
	}
}

// wantWrong holds what Check says against the one link that it should.
func wantWrong(t *testing.T, x api.Entry, op string, at int, code api.Code) {
	t.Helper()
	wantChain(t, item.Check(x), api.Step{Op: op, At: at, Code: code})
}

// wantUnread holds what Read says of bytes against what it should: which entry, from which byte on, and its code.
func wantUnread(t *testing.T, b []byte, ahead, at int, code api.Code) {
	t.Helper()
	l, err := item.Read(b)
	if len(l) != 0 {
		t.Errorf("Read answers %v beside %v", l, err)
	}
	wantChain(t, err, api.Step{Op: "entries", At: ahead}, api.Step{Op: "entry", At: at, Code: code})
}

// wantFrom holds what a reader of bytes reads against what is wrong with it, and where it stands then.
func wantFrom(t *testing.T, b []byte, at int, code api.Code) {
	t.Helper()
	r := octets.Read(b)
	x := item.From(r)
	if !zero(x) || r.Code() != code || r.At() != at {
		t.Errorf("From of %v: %v, code %d at %d, want code %d at %d", b, x, r.Code(), r.At(), code, at)
	}
}

// The chapter's example: eight bytes.
func TestExample(t *testing.T) {
	x := example()
	b := item.Put(nil, x)
	if !bytes.Equal(b, exampleBytes()) || item.Size(x) != 8 {
		t.Errorf("%v of %d bytes", b, item.Size(x))
	}
	l, err := item.Read(b)
	if err != nil || len(l) != 1 || !equal(l[0], x) {
		t.Errorf("read back as %v, %v", l, err)
	}
	if err := item.Check(x); err != nil {
		t.Error(err)
	}
}

// 6.1: nothing is wrong with entries that may be.
func TestCheckRight(t *testing.T) {
	each(func(x api.Entry) {
		if err := item.Check(x); err != nil {
			t.Errorf("%v: %v", x, err)
		}
	})
}

// 6.1: of key, at its length, octets.Key's code.
func TestCheckKey(t *testing.T) {
	x := example()
	x.Key = ""
	wantWrong(t, x, "key", 0, api.ErrArg)
	for _, size := range []int{api.MaxKey + 1, api.MaxKey + 2, 127, 128, 256, 296, 5000} {
		x.Key = strings.Repeat("k", size)
		wantWrong(t, x, "key", size, api.ErrSize)
	}
	x.Key = strings.Repeat("ä", api.MaxKey/2+1)
	wantWrong(t, x, "key", api.MaxKey+2, api.ErrSize)
}

// 6.1: of version, at it, ErrRange: from 1 up to MaxNum.
func TestCheckVersion(t *testing.T) {
	for _, n := range slices.Concat([]int{0}, below, tooMuch) {
		x := example()
		x.Version = n
		wantWrong(t, x, "version", n, api.ErrRange)
		x.AsOf = n
		wantWrong(t, x, "version", n, api.ErrRange)
	}
}

// 6.1: of asof, at it, ErrRange: from Version up to MaxNum.
func TestCheckAsOf(t *testing.T) {
	for _, version := range numbers {
		x := example()
		x.Version = version
		for _, n := range slices.Concat([]int{0, version - 1}, below, tooMuch) {
			x.AsOf = n
			wantWrong(t, x, "asof", n, api.ErrRange)
		}
		x.AsOf = version
		if err := item.Check(x); err != nil {
			t.Errorf("%v: %v", x, err)
		}
	}
}

// 6.1: of ends, at it, ErrRange: from 0 up to MaxNum, whatever the others are.
func TestCheckEnds(t *testing.T) {
	x := example()
	for _, n := range slices.Concat(below, tooMuch) {
		x.Ends = n
		wantWrong(t, x, "ends", n, api.ErrRange)
	}
	for _, n := range slices.Concat([]int{0}, numbers) {
		x.Ends = n
		if err := item.Check(x); err != nil {
			t.Errorf("%v: %v", x, err)
		}
	}
}

// 6.1: of value, at its length, ErrSize, above MaxValue bytes.
func TestCheckValue(t *testing.T) {
	x := example()
	for _, size := range []int{api.MaxValue + 1, api.MaxValue + 2, 2 * api.MaxValue, 1<<16 + 1} {
		x.Value = make([]byte, size)
		wantWrong(t, x, "value", size, api.ErrSize)
	}
	x.Value = make([]byte, api.MaxValue)
	if err := item.Check(x); err != nil {
		t.Error(err)
	}
}

// 6.1 and R6: what is named first is answered: all is wrong, then one part less at a time.
func TestCheckOrder(t *testing.T) {
	x := api.Entry{Key: "", Version: 0, AsOf: -1, Ends: -2, Value: make([]byte, api.MaxValue+1)}
	wantWrong(t, x, "key", 0, api.ErrArg)
	x.Key = strings.Repeat("k", api.MaxKey+1)
	wantWrong(t, x, "key", api.MaxKey+1, api.ErrSize)
	x.Key = "k"
	wantWrong(t, x, "version", 0, api.ErrRange)
	x.Version = 1
	wantWrong(t, x, "asof", -1, api.ErrRange)
	x.AsOf = 1
	wantWrong(t, x, "ends", -2, api.ErrRange)
	x.Ends = 0
	wantWrong(t, x, "value", api.MaxValue+1, api.ErrSize)
	x.Value = nil
	if err := item.Check(x); err != nil {
		t.Error(err)
	}
}

// 6.1 and P10: what was wrong with one entry is not wrong with the next.
func TestCheckAgain(t *testing.T) {
	bad := example()
	bad.Version = 0
	for range 3 {
		wantWrong(t, bad, "version", 0, api.ErrRange)
		if err := item.Check(example()); err != nil {
			t.Error(err)
		}
	}
}

// 6.2: the bytes of each entry that may be, and how many they are.
func TestPutModel(t *testing.T) {
	each(func(x api.Entry) {
		want := written(x)
		if b := item.Put(nil, x); !bytes.Equal(b, want) {
			t.Errorf("Put of %v is %v, want %v", x, b, want)
		}
		if n := item.Size(x); n != len(want) {
			t.Errorf("Size of %v is %d, want %d", x, n, len(want))
		}
	})
}

// 6.2: what an entry is put behind stays ahead of it, whatever it is.
func TestPutBehind(t *testing.T) {
	for _, ahead := range [][]byte{nil, {}, {0}, {128}, []byte("abc"), drawn(1000, 1)} {
		for _, size := range sizes {
			x := example()
			x.Value = drawn(size, 2)
			want := slices.Concat(ahead, written(x))
			if b := item.Put(ahead, x); !bytes.Equal(b, want) {
				t.Errorf("%d bytes behind %d: %v, want %v", size, len(ahead), b, want)
			}
		}
	}
}

// 6.2: an entry without a value, nil or empty, ends with a nought.
func TestPutNoValue(t *testing.T) {
	x := example()
	want := []byte{1, 'k', 3, 5, 9, 0}
	for _, value := range [][]byte{nil, {}} {
		x.Value = value
		if b := item.Put(nil, x); !bytes.Equal(b, want) || item.Size(x) != 6 {
			t.Errorf("%v of %d bytes", b, item.Size(x))
		}
	}
}

// 6.3: a reader reads each entry that may be, and stands behind it.
func TestFrom(t *testing.T) {
	each(func(x api.Entry) {
		b := written(x)
		r := octets.Read(append(b, 77))
		y := item.From(r)
		if !equal(x, y) || r.Code() != api.OK || r.At() != len(b) || r.Left() != 1 {
			t.Errorf("%v is read as %v, code %d, at %d", x, y, r.Code(), r.At())
		}
	})
}

// 6.3: a reader reads entries in the midst of other things.
func TestFromMidst(t *testing.T) {
	x := example()
	b := octets.Put(nil, 300)
	b = item.Put(b, x)
	b = octets.Bytes(b, []byte("between"))
	b = item.Put(b, x)
	r := octets.Read(b)
	n, first, text, second := r.Number(api.MaxNum), item.From(r), r.Bytes(10), item.From(r)
	if n != 300 || !equal(first, x) || string(text) != "between" || !equal(second, x) || r.End() != api.OK {
		t.Errorf("%d, %v, %q, %v, code %d", n, first, text, second, r.End())
	}
}

// 6.3: an entry that is cut off anywhere is too short; the reader stays where the part that was cut off begins.
func TestFromShort(t *testing.T) {
	starts := []int{0, 0, 2, 3, 4, 5, 5, 5}
	for n, at := range starts {
		wantFrom(t, exampleBytes()[:n], at, api.ErrShort)
	}
	x := api.Entry{Key: strings.Repeat("k", api.MaxKey), Version: 300, AsOf: api.MaxNum, Ends: api.MaxNum, Value: drawn(api.MaxValue, 3)}
	b := written(x)
	for n := range b {
		r := octets.Read(b[:n])
		if y := item.From(r); !zero(y) || r.Code() != api.ErrShort {
			t.Fatalf("the first %d bytes: %v, code %d", n, y, r.Code())
		}
	}
}

// 6.3: a key of at most MaxKey bytes, three numbers up to MaxNum, a value of at most MaxValue bytes: what is above that can't be read.
func TestFromRange(t *testing.T) {
	x := example()
	x.Key = strings.Repeat("k", api.MaxKey+1)
	wantFrom(t, written(x), 0, api.ErrRange)
	wantFrom(t, digits(api.MaxKey+1), 0, api.ErrRange)
	for _, n := range tooMuch {
		x := example()
		x.Version = n
		wantFrom(t, written(x), 2, api.ErrRange)
		x = example()
		x.AsOf = n
		wantFrom(t, written(x), 3, api.ErrRange)
		x = example()
		x.Ends = n
		wantFrom(t, written(x), 4, api.ErrRange)
	}
	x = example()
	x.Value = make([]byte, api.MaxValue+1)
	wantFrom(t, written(x), 5, api.ErrRange)
	wantFrom(t, slices.Concat(exampleBytes()[:5], digits(api.MaxValue+1)), 5, api.ErrRange)
}

// 6.3: each of the numbers must stand in its one row.
func TestFromForm(t *testing.T) {
	for _, at := range []int{0, 2, 3, 4, 5} {
		b := slices.Insert(exampleBytes(), at, byte(128))
		wantFrom(t, b, at, api.ErrForm)
	}
}

// unfit is entries that can be read, but may not be.
var unfit = []struct {
	x    api.Entry
	code api.Code
}{
	{api.Entry{Key: "", Version: 3, AsOf: 5, Ends: 9, Value: []byte("ab")}, api.ErrArg},
	{api.Entry{Key: "", Version: 0, AsOf: 0}, api.ErrArg},
	{api.Entry{Key: "k", Version: 0, AsOf: 5, Ends: 9, Value: []byte("ab")}, api.ErrRange},
	{api.Entry{Key: "k", Version: 0, AsOf: 0}, api.ErrRange},
	{api.Entry{Key: "k", Version: 6, AsOf: 5, Ends: 9, Value: []byte("ab")}, api.ErrRange},
	{api.Entry{Key: "k", Version: 1, AsOf: 0}, api.ErrRange},
	{api.Entry{Key: "k", Version: api.MaxNum, AsOf: api.MaxNum - 1}, api.ErrRange},
}

// 6.3: then Check's code is what is wrong with the reader, which stands behind what it read.
func TestFromCheck(t *testing.T) {
	for _, c := range unfit {
		b := written(c.x)
		wantFrom(t, b, len(b), c.code)
		wantFrom(t, slices.Concat(b, exampleBytes()), len(b), c.code)
		r := octets.Read(slices.Concat(b, exampleBytes()))
		item.From(r)
		if y := item.From(r); !zero(y) || r.Code() != c.code || r.At() != len(b) || r.End() != c.code {
			t.Errorf("behind %v a reader reads %v, code %d at %d", c.x, y, r.Code(), r.At())
		}
	}
}

// 6.3 and R6: what can't be read comes ahead of what may not be.
func TestFromOrder(t *testing.T) {
	wantFrom(t, []byte{0, 0, 0, 0}, 4, api.ErrShort)
	wantFrom(t, []byte{0, 128, 0, 0, 0}, 1, api.ErrForm)
	wantFrom(t, slices.Concat([]byte{0, 0, 0}, digits(api.MaxNum+1)), 3, api.ErrRange)
	wantFrom(t, slices.Concat([]byte{0, 0, 0, 0}, digits(api.MaxValue+1)), 4, api.ErrRange)
	wantFrom(t, []byte{0, 0, 0, 0, 0}, 5, api.ErrArg)
	wantFrom(t, []byte{0}, 1, api.ErrShort)
}

// 6.3: a reader with which something was wrong already reads no entry, and keeps what it was.
func TestFromWrong(t *testing.T) {
	for _, code := range []api.Code{api.ErrArg, api.ErrForm, api.ErrTwice, api.ErrLimit} {
		r := octets.Read(exampleBytes())
		r.Fail(code)
		if x := item.From(r); !zero(x) || r.Code() != code || r.At() != 0 {
			t.Errorf("%v, code %d at %d", x, r.Code(), r.At())
		}
	}
}

// manyEntries is some entries that may be, some of them of one key.
func manyEntries() []api.Entry {
	var l []api.Entry
	each(func(x api.Entry) {
		if len(x.Value) < 300 {
			l = append(l, x)
		}
	})
	return append(l, example(), example())
}

// 6.4: All is the bytes of each, one behind the other; Read reads them, in order.
func TestAll(t *testing.T) {
	l := manyEntries()
	for n := range len(l) + 1 {
		var want []byte
		for _, x := range l[:n] {
			want = append(want, written(x)...)
		}
		if b := item.All(l[:n]); !bytes.Equal(b, want) {
			t.Fatalf("All of %d entries is %v, want %v", n, b, want)
		}
		back, err := item.Read(want)
		if err != nil || !slices.EqualFunc(back, l[:n], equal) {
			t.Fatalf("%d entries are read as %v, %v", n, back, err)
		}
	}
}

// 6.4: no bytes are no entries, and no entries no bytes.
func TestNone(t *testing.T) {
	for _, b := range [][]byte{nil, {}} {
		if l, err := item.Read(b); err != nil || len(l) != 0 {
			t.Errorf("%v, %v", l, err)
		}
	}
	for _, l := range [][]api.Entry{nil, {}} {
		if b := item.All(l); len(b) != 0 {
			t.Errorf("%v", b)
		}
	}
}

// 6.4: the first entry that can't be read is told, by the byte where it begins, and how many stand ahead.
func TestReadWrong(t *testing.T) {
	bad := []struct {
		b    []byte
		code api.Code
	}{
		{[]byte{1}, api.ErrShort},
		{exampleBytes()[:5], api.ErrShort},
		{exampleBytes()[:7], api.ErrShort},
		{[]byte{128, 1, 'k', 3, 5, 9, 0}, api.ErrForm},
		{[]byte{1, 'k', 3, 5, 128, 9, 0}, api.ErrForm},
		{[]byte{41}, api.ErrRange},
		{written(api.Entry{Key: "k", Version: 1, AsOf: 1, Ends: api.MaxNum + 1}), api.ErrRange},
		{written(api.Entry{Key: "k", Version: 1, AsOf: 1, Value: make([]byte, api.MaxValue+1)}), api.ErrRange},
	}
	for _, c := range unfit {
		bad = append(bad, struct {
			b    []byte
			code api.Code
		}{written(c.x), c.code})
	}
	l := manyEntries()[:20]
	for n := range l {
		good := item.All(l[:n])
		for _, c := range bad {
			b := slices.Concat(good, c.b)
			wantUnread(t, b, n, len(good), c.code)
			if c.code != api.ErrShort {
				wantUnread(t, slices.Concat(b, c.b, exampleBytes()), n, len(good), c.code)
			}
		}
	}
}

// 6.4 and R6: of two entries that can't be read the first one is told, although another code is named ahead of its own.
func TestReadFirst(t *testing.T) {
	b := slices.Concat(exampleBytes(), []byte{128}, exampleBytes(), written(unfit[0].x))
	wantUnread(t, b, 1, 8, api.ErrForm)
	b = slices.Concat(exampleBytes(), written(unfit[0].x), []byte{128})
	wantUnread(t, b, 1, 8, api.ErrArg)
}

// 6.5: Ends 0, or above now.
func TestLive(t *testing.T) {
	cases := []struct {
		ends, now int
		want      bool
	}{
		{0, 0, true}, {0, 1, true}, {0, -1, true}, {0, api.MaxNum, true}, {0, math.MaxInt, true}, {0, math.MinInt, true},
		{1, 0, true}, {1, 1, false}, {1, 2, false}, {1, -1, true},
		{9, 8, true}, {9, 9, false}, {9, 10, false}, {9, math.MaxInt, false}, {9, math.MinInt, true},
		{api.MaxNum, api.MaxNum - 1, true}, {api.MaxNum, api.MaxNum, false}, {api.MaxNum, api.MaxNum + 1, false},
		{-1, 0, false}, {-1, -2, true}, {-1, -1, false},
		{math.MaxInt, math.MinInt, true}, {math.MinInt, math.MaxInt, false}, {math.MinInt, math.MinInt, false},
	}
	for _, c := range cases {
		x := example()
		x.Ends = c.ends
		if got := item.Live(x, c.now); got != c.want {
			t.Errorf("up to %d, at %d: %v", c.ends, c.now, got)
		}
	}
}

// 6.5: two entries are the same if all five are.
func TestSame(t *testing.T) {
	l := []api.Entry{
		{},
		example(),
		{Key: "l", Version: 3, AsOf: 5, Ends: 9, Value: []byte("ab")},
		{Key: "kk", Version: 3, AsOf: 5, Ends: 9, Value: []byte("ab")},
		{Key: "", Version: 3, AsOf: 5, Ends: 9, Value: []byte("ab")},
		{Key: "k", Version: 4, AsOf: 5, Ends: 9, Value: []byte("ab")},
		{Key: "k", Version: 3, AsOf: 6, Ends: 9, Value: []byte("ab")},
		{Key: "k", Version: 3, AsOf: 5, Ends: 10, Value: []byte("ab")},
		{Key: "k", Version: 3, AsOf: 5, Ends: 9, Value: []byte("ac")},
		{Key: "k", Version: 3, AsOf: 5, Ends: 9, Value: []byte("bb")},
		{Key: "k", Version: 3, AsOf: 5, Ends: 9, Value: []byte("a")},
		{Key: "k", Version: 3, AsOf: 5, Ends: 9, Value: []byte("ab\x00")},
		{Key: "k", Version: 3, AsOf: 5, Ends: 9},
		{Key: "k", Version: 5, AsOf: 3, Ends: 9, Value: []byte("ab")},
		{Key: "k", Version: -3, AsOf: 5, Ends: 9, Value: []byte("ab")},
		{Key: "k", Version: 3 + 1<<32, AsOf: 5, Ends: 9, Value: []byte("ab")},
		{Key: strings.Repeat("k", 99), Version: math.MinInt, AsOf: math.MaxInt, Ends: -1, Value: make([]byte, 5000)},
	}
	for i, a := range l {
		for j, b := range l {
			b.Value = slices.Clone(b.Value)
			if got := item.Same(a, b); got != (i == j) {
				t.Errorf("Same(%v, %v) is %v", a, b, got)
			}
		}
	}
	none := l[12]
	none.Value = []byte{}
	if !item.Same(none, l[12]) || !item.Same(l[12], none) {
		t.Error("no value, nil and not, are not the same")
	}
}

// 6.5: a copy is the same, whether the entry may be or not.
func TestCopy(t *testing.T) {
	each(func(x api.Entry) {
		if y := item.Copy(x); !equal(x, y) {
			t.Errorf("%v is copied as %v", x, y)
		}
	})
	for _, x := range []api.Entry{{}, {Version: -1, AsOf: math.MinInt, Ends: math.MaxInt, Value: make([]byte, 5000)}, {Key: strings.Repeat("k", 99)}} {
		if y := item.Copy(x); !equal(x, y) {
			t.Errorf("%v is copied as %v", x, y)
		}
	}
}

// 6.6: there and back entries are the same, one alone and all together.
func TestThereAndBack(t *testing.T) {
	each(func(x api.Entry) {
		b := item.Put(nil, x)
		l, err := item.Read(b)
		if err != nil || len(l) != 1 || !item.Same(l[0], x) || !equal(l[0], x) {
			t.Errorf("%v comes back as %v, %v", x, l, err)
		}
	})
	l := manyEntries()
	back, err := item.Read(item.All(l))
	if err != nil || !slices.EqualFunc(l, back, item.Same) {
		t.Errorf("%v come back as %v, %v", l, back, err)
	}
}

// 6.6 and P10: in one way alone: bytes that can be read are those of what they hold, whatever was turned in them.
func TestOneWay(t *testing.T) {
	x := api.Entry{Key: "key", Version: 300, AsOf: 40000, Ends: 5000000, Value: []byte("value")}
	base := slices.Concat(written(x), exampleBytes())
	read := 0
	for at := range base {
		for by := 1; by < 256; by++ {
			b := slices.Clone(base)
			b[at] ^= byte(by)
			l, err := item.Read(b)
			if err != nil {
				continue
			}
			read++
			if back := item.All(l); !bytes.Equal(back, b) {
				t.Errorf("turned by %d at %d: read as %v, which is %v", by, at, l, back)
			}
		}
	}
	if read == 0 {
		t.Error("none could be read")
	}
}

// within is a row of bytes in the midst of others, which no call may read, write or hand out.
func within(b []byte) (row, whole []byte) {
	whole = bytes.Repeat([]byte{0xee}, len(b)+600)
	copy(whole[8:], b)
	return whole[8 : 8+len(b)], whole
}

// R3: what is handed in is not changed, nor is what lies around it in its memory; what lies there is not to be seen.
func TestHandedInStays(t *testing.T) {
	for _, size := range sizes {
		value := drawn(size, 4)
		row, whole := within(value)
		ahead, wholeAhead := within([]byte("ahead"))
		was, wasAhead := slices.Clone(whole), slices.Clone(wholeAhead)
		x := example()
		x.Value = row
		l := []api.Entry{example(), x, {Key: "behind"}}
		want := written(api.Entry{Key: "k", Version: 3, AsOf: 5, Ends: 9, Value: value})
		if b := item.Put(ahead, x); !bytes.Equal(b, append([]byte("ahead"), want...)) {
			t.Errorf("Put: %v", b)
		}
		if b := item.All(l[:2]); !bytes.Equal(b, slices.Concat(exampleBytes(), want)) {
			t.Errorf("All: %v", b)
		}
		if y := item.Copy(x); !equal(x, y) || !item.Same(x, y) || item.Check(x) != nil || item.Size(x) != len(want) || !item.Live(x, 8) {
			t.Errorf("%v", x)
		}
		if !bytes.Equal(whole, was) || !bytes.Equal(wholeAhead, wasAhead) {
			t.Errorf("a value of %d bytes, or what lies around it, was changed", size)
		}
		if !equal(l[0], example()) || !equal(l[1], x) || !equal(l[2], api.Entry{Key: "behind"}) {
			t.Errorf("a list was changed: %v", l)
		}
		row, whole = within(want)
		was = slices.Clone(whole)
		back, err := item.Read(row)
		if err != nil || len(back) != 1 || !equal(back[0], x) {
			t.Errorf("Read: %v, %v", back, err)
		}
		wantUnread(t, row[:len(row)-1:len(row)], 0, 0, api.ErrShort)
		if !bytes.Equal(whole, was) {
			t.Errorf("bytes with %d of a value, or what lies around them, were changed", size)
		}
	}
}

// wipe writes over a row, and over what lies behind it in its memory.
func wipe(b []byte) {
	b = b[:cap(b)]
	for i := range b {
		b[i] = 0xdd
	}
}

// R3: bytes that were answered stay as they were, whatever is written into what was handed in, or was answered otherwise.
func TestBytesStay(t *testing.T) {
	for _, size := range sizes {
		x := example()
		x.Value = drawn(size, 5)
		want := written(x)
		ahead := []byte("ahead")
		a, b := item.Put(ahead, x), item.Put(ahead, x)
		c, d := item.All([]api.Entry{x}), item.All([]api.Entry{x})
		e, f := item.Put(nil, x), item.Put(nil, x)
		wipe(x.Value)
		wipe(ahead)
		wipe(b)
		wipe(d)
		wipe(f)
		if !bytes.Equal(a, append([]byte("ahead"), want...)) || !bytes.Equal(c, want) || !bytes.Equal(e, want) {
			t.Errorf("bytes of a value of %d changed", size)
		}
	}
}

// R3: two entries that are put behind one row, in whose memory there is room, do not stand in each other's place.
func TestPutTwice(t *testing.T) {
	ahead := append(make([]byte, 0, 100), "ahead"...)
	x, y := example(), example()
	y.Key, y.Value = "l", []byte("cd")
	a, b := item.Put(ahead, x), item.Put(ahead, y)
	if !bytes.Equal(a, append([]byte("ahead"), written(x)...)) || !bytes.Equal(b, append([]byte("ahead"), written(y)...)) {
		t.Errorf("%v and %v", a, b)
	}
	c := item.Put(a, y)
	d := item.Put(a, x)
	if !bytes.Equal(c, slices.Concat(a, written(y))) || !bytes.Equal(d, slices.Concat(a, written(x))) {
		t.Errorf("%v and %v", c, d)
	}
}

// R3: entries that were answered stay as they were, whatever is written into what was handed in, or into others.
func TestEntriesStay(t *testing.T) {
	for _, size := range sizes {
		x := example()
		x.Value = drawn(size, 6)
		want := item.Copy(x)
		row := slices.Concat(written(x), written(x), written(x))
		l, err := item.Read(row)
		m, errM := item.Read(row)
		r := octets.Read(row)
		y, z := item.From(r), item.From(r)
		c, d := item.Copy(x), item.Copy(x)
		if err != nil || errM != nil || len(l) != 3 || len(m) != 3 {
			t.Fatal(l, err, m, errM)
		}
		wipe(row)
		wipe(x.Value)
		wipe(l[0].Value)
		wipe(l[2].Value)
		wipe(m[1].Value)
		wipe(z.Value)
		wipe(d.Value)
		m[1] = api.Entry{}
		if !equal(l[1], want) || !equal(m[0], want) || !equal(m[2], want) || !equal(y, want) || !equal(c, want) {
			t.Errorf("an entry with a value of %d bytes changed", size)
		}
	}
}

// R3: a value that was read, or copied, has nothing behind it but noughts.
func TestNothingBehind(t *testing.T) {
	row, _ := within(slices.Concat(exampleBytes(), exampleBytes()))
	l, err := item.Read(row)
	if err != nil || len(l) != 2 {
		t.Fatal(l, err)
	}
	x := example()
	x.Value, _ = within([]byte("ab"))
	for _, y := range append(l, item.Copy(x), item.From(octets.Read(row))) {
		behind := y.Value[len(y.Value):cap(y.Value)]
		if !bytes.Equal(behind, make([]byte, len(behind))) {
			t.Errorf("behind %v stands %v", y, behind)
		}
	}
}

// P10: what is answered hangs on the arguments alone, whatever was asked ahead.
func TestAgain(t *testing.T) {
	x, want := example(), exampleBytes()
	each(func(y api.Entry) {
		item.Put(nil, y)
		if _, err := item.Read([]byte{128}); err == nil {
			t.Error("a number with a nought ahead can be read")
		}
		l, err := item.Read(want)
		if b := item.Put(nil, x); !bytes.Equal(b, want) || err != nil || len(l) != 1 || !equal(l[0], x) {
			t.Fatalf("behind %v: %v, %v, %v", y, b, l, err)
		}
	})
}

// P0: Check, Live, Same and Copy take whatever entry there is.
func FuzzCheck(f *testing.F) {
	f.Add("k", 3, 5, 9, []byte("ab"), 4)
	f.Add("", 0, 0, 0, []byte{}, 0)
	f.Add(strings.Repeat("k", 41), math.MaxInt, math.MinInt, -1, make([]byte, api.MaxValue+1), -1)
	f.Fuzz(func(t *testing.T, key string, version, asOf, ends int, value []byte, now int) {
		x := api.Entry{Key: key, Version: version, AsOf: asOf, Ends: ends, Value: value}
		if item.Live(x, now) != (ends == 0 || ends > now) || !item.Same(x, item.Copy(x)) {
			t.Errorf("%v", x)
		}
		if item.Check(x) != nil {
			return
		}
		b := item.Put(nil, x)
		if !bytes.Equal(b, written(x)) || len(b) != item.Size(x) {
			t.Errorf("%v is %v", x, b)
		}
		l, err := item.Read(b)
		if err != nil || len(l) != 1 || !equal(l[0], x) {
			t.Errorf("%v comes back as %v, %v", x, l, err)
		}
	})
}

// P0: no bytes whatever have a call panic; what can be read is the bytes of what they hold.
func FuzzRead(f *testing.F) {
	f.Add([]byte{})
	f.Add(exampleBytes())
	f.Add(item.All(manyEntries()[:9]))
	f.Add([]byte{0, 0, 0, 0, 0})
	f.Fuzz(func(t *testing.T, b []byte) {
		l, err := item.Read(b)
		if err != nil {
			if at, ok := trouble.Where(err); len(l) != 0 || !ok || at >= len(b) || trouble.Of(err) == api.OK {
				t.Errorf("%v beside %v", l, err)
			}
			return
		}
		for _, x := range l {
			if err := item.Check(x); err != nil {
				t.Errorf("%v was read: %v", x, err)
			}
		}
		if back := item.All(l); !bytes.Equal(back, b) {
			t.Errorf("%v is %v, read from %v", l, back, b)
		}
	})
}
