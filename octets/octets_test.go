package octets_test

import (
	"bytes"
	"math"
	"math/big"
	"strings"
	"testing"

	"buttery/api"
	"buttery/octets"
)

// The calls with the signatures that the chapter lists.
var (
	_ func([]byte, ...int) []byte      = octets.Put
	_ func(int) int                    = octets.Len
	_ func([]byte, []byte) []byte      = octets.Bytes
	_ func([]byte, uint64) []byte      = octets.Word
	_ func([]byte) *octets.Reader      = octets.Read
	_ func(*octets.Reader, int) int    = (*octets.Reader).Number
	_ func(*octets.Reader, int) []byte = (*octets.Reader).Bytes
	_ func(*octets.Reader) uint64      = (*octets.Reader).Word
	_ func(*octets.Reader) api.Code    = (*octets.Reader).Code
	_ func(*octets.Reader) int         = (*octets.Reader).At
	_ func(*octets.Reader) int         = (*octets.Reader).Left
	_ func(*octets.Reader, api.Code)   = (*octets.Reader).Fail
	_ func(*octets.Reader) api.Code    = (*octets.Reader).End
	_ func(string) api.Code            = octets.Key
)

// rows is numbers and their bytes, both sides of every length.
var rows = []struct {
	n int
	b []byte
}{
	{0, []byte{0}},
	{1, []byte{1}},
	{44, []byte{44}},
	{127, []byte{127}},
	{128, []byte{129, 0}},
	{129, []byte{129, 1}},
	{255, []byte{129, 127}},
	{256, []byte{130, 0}},
	{300, []byte{130, 44}},
	{1<<14 - 1, []byte{255, 127}},
	{1 << 14, []byte{129, 128, 0}},
	{1<<21 - 1, []byte{255, 255, 127}},
	{1 << 21, []byte{129, 128, 128, 0}},
	{1<<28 - 1, []byte{255, 255, 255, 127}},
	{1 << 28, []byte{129, 128, 128, 128, 0}},
	{1<<35 - 1, []byte{255, 255, 255, 255, 127}},
	{1 << 35, []byte{129, 128, 128, 128, 128, 0}},
	{api.MaxNum, []byte{160, 128, 128, 128, 128, 0}},
	{1<<42 - 1, []byte{255, 255, 255, 255, 255, 127}},
	{1 << 42, []byte{129, 128, 128, 128, 128, 128, 0}},
	{1<<49 - 1, []byte{255, 255, 255, 255, 255, 255, 127}},
	{1 << 49, []byte{129, 128, 128, 128, 128, 128, 128, 0}},
	{1<<56 - 1, []byte{255, 255, 255, 255, 255, 255, 255, 127}},
	{1 << 56, []byte{129, 128, 128, 128, 128, 128, 128, 128, 0}},
	{math.MaxInt, []byte{255, 255, 255, 255, 255, 255, 255, 255, 127}},
}

// cat is rows of bytes one behind the other, in new memory.
func cat(parts ...[]byte) []byte { return bytes.Join(parts, nil) }

// wantAt holds what a reader tells of itself against what it should.
func wantAt(t *testing.T, r *octets.Reader, code api.Code, at, left int) {
	t.Helper()
	if r.Code() != code || r.At() != at || r.Left() != left {
		t.Errorf("code %d, at %d, left %d; want %d, %d, %d", r.Code(), r.At(), r.Left(), code, at, left)
	}
	end := code
	if code == api.OK && left > 0 {
		end = api.ErrForm
	}
	if got := r.End(); got != end {
		t.Errorf("End %d, want %d", got, end)
	}
}

// wantNothing holds a reader behind something wrong to reading nothing.
func wantNothing(t *testing.T, r *octets.Reader) {
	t.Helper()
	code, at, left := r.Code(), r.At(), r.Left()
	if n := r.Number(math.MaxInt); n != 0 {
		t.Errorf("Number behind code %d: %d", code, n)
	}
	if b := r.Bytes(math.MaxInt); len(b) != 0 {
		t.Errorf("Bytes behind code %d: %v", code, b)
	}
	if w := r.Word(); w != 0 {
		t.Errorf("Word behind code %d: %d", code, w)
	}
	wantAt(t, r, code, at, left)
}

// 2.1, and the chapter's example: 300 is the bytes 130 and 44.
func TestExample(t *testing.T) {
	if b := octets.Put(nil, 300); !bytes.Equal(b, []byte{130, 44}) {
		t.Errorf("300 is %v", b)
	}
	r := octets.Read([]byte{130, 44})
	if n := r.Number(300); n != 300 {
		t.Errorf("130 44 is %d", n)
	}
	wantAt(t, r, api.OK, 2, 0)
}

// 2.1: a number's bytes, and how many these are.
func TestPut(t *testing.T) {
	for _, x := range rows {
		if b := octets.Put(nil, x.n); !bytes.Equal(b, x.b) {
			t.Errorf("Put %d: %v, want %v", x.n, b, x.b)
		}
		if l := octets.Len(x.n); l != len(x.b) {
			t.Errorf("Len %d: %d, want %d", x.n, l, len(x.b))
		}
	}
}

// 2.1: all numbers stand behind what was there, in their order.
func TestPutMany(t *testing.T) {
	for _, b := range [][]byte{nil, {}, {0}, {128}, {1, 255, 3}} {
		if got := octets.Put(b); !bytes.Equal(got, b) {
			t.Errorf("Put %v: %v", b, got)
		}
		all := cat(b)
		var l []int
		for _, x := range rows {
			l = append(l, x.n)
			all = append(all, x.b...)
		}
		if got := octets.Put(b, l...); !bytes.Equal(got, all) {
			t.Errorf("Put %v and all: %v, want %v", b, got, all)
		}
	}
	if got := octets.Put([]byte{9}, 0, 300, 127, 128, 0); !bytes.Equal(got, []byte{9, 0, 130, 44, 127, 129, 0, 0}) {
		t.Errorf("%v", got)
	}
}

// 2.1 (R5): a number below 0 is not there.
func TestPutBelow(t *testing.T) {
	for _, n := range []int{-1, -128, -300, math.MinInt} {
		if l := octets.Len(n); l != 0 {
			t.Errorf("Len %d: %d", n, l)
		}
		if b := octets.Put([]byte{9}, 1, n, 2); !bytes.Equal(b, []byte{9, 1, 2}) {
			t.Errorf("Put %d: %v", n, b)
		}
	}
}

// 2.1: held against digits of base 128, as another way tells them.
func TestPutModel(t *testing.T) {
	base := big.NewInt(128)
	next := source(1)
	for range 20000 {
		n := int(next() >> 1 >> (next() % 63))
		var want []byte
		rest, digit := big.NewInt(int64(n)), new(big.Int)
		for first := true; first || rest.Sign() > 0; first = false {
			rest.DivMod(rest, base, digit)
			c := byte(digit.Int64())
			if !first {
				c += 128
			}
			want = append([]byte{c}, want...)
		}
		if b := octets.Put(nil, n); !bytes.Equal(b, want) || octets.Len(n) != len(want) {
			t.Fatalf("Put %d: %v, Len %d, want %v", n, b, octets.Len(n), want)
		}
	}
}

// 2.2: how many bytes there are, and they, behind what was there.
func TestBytes(t *testing.T) {
	for _, size := range []int{0, 1, 2, 40, 127, 128, 129, 300, 1<<14 - 1, 1 << 14, 1 << 16} {
		text := fill(size, byte(size))
		for _, b := range [][]byte{nil, {7}, {128, 0, 255}} {
			want := cat(b, octets.Put(nil, size), text)
			if got := octets.Bytes(b, text); !bytes.Equal(got, want) {
				t.Errorf("Bytes of %d behind %v are wrong", size, b)
			}
		}
	}
	if got := octets.Bytes([]byte{5}, nil); !bytes.Equal(got, []byte{5, 0}) {
		t.Errorf("Bytes of none: %v", got)
	}
	if got := octets.Bytes(nil, []byte("abc")); !bytes.Equal(got, []byte{3, 'a', 'b', 'c'}) {
		t.Errorf("Bytes of abc: %v", got)
	}
}

// words is words and their bytes.
var words = []struct {
	n uint64
	b []byte
}{
	{0, []byte{0, 0, 0, 0, 0, 0, 0, 0}},
	{1, []byte{0, 0, 0, 0, 0, 0, 0, 1}},
	{255, []byte{0, 0, 0, 0, 0, 0, 0, 255}},
	{256, []byte{0, 0, 0, 0, 0, 0, 1, 0}},
	{0x0102030405060708, []byte{1, 2, 3, 4, 5, 6, 7, 8}},
	{1 << 63, []byte{128, 0, 0, 0, 0, 0, 0, 0}},
	{0xf0e1d2c3b4a59687, []byte{0xf0, 0xe1, 0xd2, 0xc3, 0xb4, 0xa5, 0x96, 0x87}},
	{math.MaxUint64, []byte{255, 255, 255, 255, 255, 255, 255, 255}},
}

// 2.3, 2.6: eight bytes, the highest first, there and back.
func TestWord(t *testing.T) {
	for _, x := range words {
		for _, b := range [][]byte{nil, {7}, {128, 0, 255}} {
			if got := octets.Word(b, x.n); !bytes.Equal(got, cat(b, x.b)) {
				t.Errorf("Word %x behind %v: %v", x.n, b, got)
			}
		}
		r := octets.Read(cat(x.b, []byte{9}))
		if n := r.Word(); n != x.n {
			t.Errorf("read %x, want %x", n, x.n)
		}
		wantAt(t, r, api.OK, 8, 1)
	}
}

// 2.6: fewer than eight bytes are too few, wherever they stand.
func TestWordShort(t *testing.T) {
	for left := range 8 {
		r := octets.Read(cat([]byte{130, 44}, fill(left, 200)))
		r.Number(300)
		if n := r.Word(); n != 0 {
			t.Errorf("Word of %d bytes: %x", left, n)
		}
		wantAt(t, r, api.ErrShort, 2, left)
		wantNothing(t, r)
	}
	r := octets.Read(cat(words[4].b, words[6].b, words[4].b[:7]))
	for _, want := range []uint64{words[4].n, words[6].n, 0} {
		if n := r.Word(); n != want {
			t.Errorf("read %x, want %x", n, want)
		}
	}
	wantAt(t, r, api.ErrShort, 16, 7)
}

// 2.4: a reader begins at 0.
func TestRead(t *testing.T) {
	wantAt(t, octets.Read(nil), api.OK, 0, 0)
	wantAt(t, octets.Read([]byte{}), api.OK, 0, 0)
	wantAt(t, octets.Read([]byte{1, 2, 3}), api.OK, 0, 3)
}

// 2.4: each number is read where it may be as great, and no lesser most lets it through.
func TestNumber(t *testing.T) {
	for _, x := range rows {
		for _, most := range []int{x.n, x.n/2 + x.n/2 + 1, math.MaxInt} {
			if most < x.n {
				continue
			}
			r := octets.Read(cat(x.b, []byte{128}))
			if n := r.Number(most); n != x.n {
				t.Errorf("Number(%d) of %v: %d", most, x.b, n)
			}
			wantAt(t, r, api.OK, len(x.b), 1)
		}
		for _, most := range []int{x.n - 1, x.n / 2, x.n >> 7, x.n >> 14, 1, 0} {
			if most < 0 || most >= x.n {
				continue
			}
			r := octets.Read(x.b)
			if n := r.Number(most); n != 0 {
				t.Errorf("Number(%d) of %v: %d", most, x.b, n)
			}
			wantAt(t, r, api.ErrRange, 0, len(x.b))
			wantNothing(t, r)
		}
	}
}

// 2.4: what is wrong with rows of bytes, and which of it is told first.
func TestNumberWrong(t *testing.T) {
	long := append(bytes.Repeat([]byte{255}, 1000), 0)
	for _, x := range []struct {
		b    []byte
		most int
		code api.Code
	}{
		{nil, 0, api.ErrShort},
		{nil, math.MaxInt, api.ErrShort},
		// It ends too early.
		{[]byte{129}, 1, api.ErrShort},
		{[]byte{129}, 0, api.ErrShort},
		{[]byte{255}, 9, api.ErrShort},
		{[]byte{129, 128, 128}, math.MaxInt, api.ErrShort},
		{[]byte{255, 255, 255, 255, 255, 255, 255, 255}, math.MaxInt, api.ErrShort},
		{[]byte{130, 128}, 300, api.ErrShort},
		// It begins with 128, whatever follows.
		{[]byte{128}, 9, api.ErrForm},
		{[]byte{128}, 0, api.ErrForm},
		{[]byte{128, 0}, 9, api.ErrForm},
		{[]byte{128, 1}, 9, api.ErrForm},
		{[]byte{128, 255, 255, 0}, 0, api.ErrForm},
		// It is above most at its end.
		{[]byte{1}, 0, api.ErrRange},
		{[]byte{127}, 126, api.ErrRange},
		{[]byte{130, 44}, 299, api.ErrRange},
		{[]byte{130, 44}, 256, api.ErrRange},
		{[]byte{129, 128, 1}, 1 << 14, api.ErrRange},
		// It is above most on its way: ahead of the byte that would end it, or that is not there.
		{[]byte{129, 0}, 127, api.ErrRange},
		{[]byte{130, 44}, 255, api.ErrRange},
		{[]byte{129, 255}, 127, api.ErrRange},
		{[]byte{129, 255}, 128, api.ErrShort},
		{[]byte{130, 128, 128}, 300, api.ErrRange},
		{[]byte{129, 128, 128, 128, 128, 128, 128, 128, 128, 0}, math.MaxInt, api.ErrRange},
		{[]byte{130, 128, 128, 128, 128, 128, 128, 128, 128, 0}, math.MaxInt, api.ErrRange},
		{[]byte{255, 255, 255, 255, 255, 255, 255, 255, 255}, math.MaxInt, api.ErrShort},
		{long, math.MaxInt, api.ErrRange},
		{long, 0, api.ErrRange},
		// Nothing is at most a number below 0.
		{[]byte{0}, -1, api.ErrRange},
		{[]byte{0}, math.MinInt, api.ErrRange},
		{nil, -1, api.ErrShort},
	} {
		for _, front := range [][]byte{nil, {0}, {130, 44}} {
			r := octets.Read(cat(front, x.b))
			if front != nil {
				r.Number(300)
			}
			if n := r.Number(x.most); n != 0 {
				t.Errorf("Number(%d) of %v: %d", x.most, x.b, n)
			}
			wantAt(t, r, x.code, len(front), len(x.b))
			wantNothing(t, r)
		}
	}
}

// 2.4: a byte 128 that is not the first one is no fault.
func TestNumberInside(t *testing.T) {
	r := octets.Read([]byte{129, 128, 128, 5, 7})
	if n := r.Number(1<<21 + 5); n != 1<<21+5 {
		t.Errorf("%d", n)
	}
	if n := r.Number(7); n != 7 {
		t.Errorf("%d", n)
	}
	wantAt(t, r, api.OK, 5, 0)
}

// plainNumber is 2.4 word by word, in numbers that don't wrap round.
func plainNumber(b []byte, most int) (int, int, api.Code) {
	n, top := new(big.Int), big.NewInt(int64(most))
	for i := 0; ; i++ {
		if i == len(b) {
			return 0, 0, api.ErrShort
		}
		if i == 0 && b[i] == 128 {
			return 0, 0, api.ErrForm
		}
		if n.Cmp(new(big.Int).Div(top, big.NewInt(128))) > 0 {
			return 0, 0, api.ErrRange
		}
		n.Add(n.Mul(n, big.NewInt(128)), big.NewInt(int64(b[i]%128)))
		if b[i] >= 128 {
			continue
		}
		if n.Cmp(top) > 0 {
			return 0, 0, api.ErrRange
		}
		return int(n.Int64()), i + 1, api.OK
	}
}

// 2.4, 2.9: rows of bytes by chance, against the chapter's words; what is read is what is written.
func TestNumberModel(t *testing.T) {
	next := source(2)
	for range 60000 {
		b := make([]byte, next()%12)
		for i := range b {
			b[i] = []byte{0, 1, 127, 128, 129, 255, byte(next()), 128 | byte(next())}[next()%8]
		}
		most := int(next() >> 1 >> (next() % 64))
		want, size, code := plainNumber(b, most)
		r := octets.Read(b)
		if n := r.Number(most); n != want || r.Code() != code || r.At() != size {
			t.Fatalf("Number(%d) of %v: %d, %d, %d; want %d, %d, %d", most, b, n, r.Code(), r.At(), want, code, size)
		}
		if code == api.OK && !bytes.Equal(octets.Put(nil, want), b[:size]) {
			t.Fatalf("%d is read from %v", want, b)
		}
	}
}

// 2.9: of all rows of up to three bytes, just those are read to their end that Put writes.
func TestOneRowEach(t *testing.T) {
	seen := map[int]int{}
	try := func(b []byte) {
		r := octets.Read(b)
		n := r.Number(math.MaxInt)
		if r.End() != api.OK {
			return
		}
		seen[n]++
		if !bytes.Equal(octets.Put(nil, n), b) {
			t.Fatalf("%v is %d, too", b, n)
		}
	}
	for i := range 256 {
		try([]byte{byte(i)})
		for j := range 256 {
			try([]byte{byte(i), byte(j)})
			for _, k := range []byte{0, 1, 44, 127, 128, 129, 255} {
				try([]byte{byte(i), byte(j), k})
			}
		}
	}
	for n := range 1 << 14 {
		if seen[n] != 1 {
			t.Fatalf("%d has %d rows", n, seen[n])
		}
	}
}

// 2.5: bytes as they were put, empty ones, and as many as there may be at most.
func TestReadBytes(t *testing.T) {
	for _, size := range []int{0, 1, 2, 127, 128, 300, 1 << 14} {
		text := fill(size, 3)
		b := octets.Bytes([]byte{8}, text)
		for _, most := range []int{size, size + 1, math.MaxInt} {
			r := octets.Read(append(cat(b), 77))
			r.Number(8)
			if got := r.Bytes(most); !bytes.Equal(got, text) {
				t.Errorf("Bytes(%d) of %d are wrong", most, size)
			}
			wantAt(t, r, api.OK, len(b), 1)
			if n := r.Number(77); n != 77 {
				t.Errorf("behind bytes: %d", n)
			}
		}
	}
}

// 2.5: the number's error first, then too few bytes; the reader stays ahead of the number.
func TestReadBytesWrong(t *testing.T) {
	for _, x := range []struct {
		b    []byte
		most int
		code api.Code
	}{
		{nil, 9, api.ErrShort},
		{[]byte{129}, 200, api.ErrShort},
		{[]byte{128, 1, 5}, 9, api.ErrForm},
		{[]byte{3, 1, 2, 3}, 2, api.ErrRange},
		{[]byte{3}, 2, api.ErrRange},
		{[]byte{130, 44}, 299, api.ErrRange},
		{[]byte{0}, -1, api.ErrRange},
		{[]byte{1}, 9, api.ErrShort},
		{[]byte{3, 1, 2}, 3, api.ErrShort},
		{[]byte{129, 0}, 128, api.ErrShort},
		{cat([]byte{129, 0}, fill(127, 1)), 128, api.ErrShort},
		{[]byte{255, 255, 255, 255, 255, 255, 255, 255, 127, 1, 2}, math.MaxInt, api.ErrShort},
	} {
		for _, front := range [][]byte{nil, {0}, {130, 44}} {
			r := octets.Read(cat(front, x.b))
			if front != nil {
				r.Number(300)
			}
			if got := r.Bytes(x.most); len(got) != 0 {
				t.Errorf("Bytes(%d) of %v: %v", x.most, x.b, got)
			}
			wantAt(t, r, x.code, len(front), len(x.b))
			wantNothing(t, r)
		}
	}
}

// 2.7: what was wrong first stays so; Fail twice, Fail with OK, Fail behind something wrong.
func TestFail(t *testing.T) {
	for c := api.ErrArg; c <= api.ErrLimit; c++ {
		r := octets.Read([]byte{1, 2, 3})
		r.Number(1)
		r.Fail(api.OK)
		wantAt(t, r, api.OK, 1, 2)
		r.Fail(c)
		wantAt(t, r, c, 1, 2)
		wantNothing(t, r)
		r.Fail(api.ErrLimit - c + 1)
		r.Fail(api.OK)
		wantAt(t, r, c, 1, 2)
		r = octets.Read([]byte{128})
		r.Number(9)
		r.Fail(c)
		wantAt(t, r, api.ErrForm, 0, 1)
		r = octets.Read(nil)
		r.Fail(c)
		wantAt(t, r, c, 0, 0)
		wantNothing(t, r)
	}
	r := octets.Read([]byte{5})
	r.Number(4)
	r.Fail(api.ErrSum)
	wantAt(t, r, api.ErrRange, 0, 1)
}

// 2.7: bytes that are left at the end are wrong; to ask so is not to fail.
func TestEnd(t *testing.T) {
	r := octets.Read([]byte{4, 5})
	for left := 2; left > 0; left-- {
		if r.End() != api.ErrForm || r.Code() != api.OK || r.Left() != left {
			t.Errorf("with %d left: %d, %d", left, r.End(), r.Code())
		}
		if n := r.Number(9); n != 6-left {
			t.Errorf("behind End: %d", n)
		}
	}
	if r.End() != api.OK || r.End() != api.OK {
		t.Error("the end is wrong")
	}
	if r.Number(9); r.End() != api.ErrShort || r.Code() != api.ErrShort {
		t.Error("behind the end nothing is wrong")
	}
}

// 2.8: a key has from 1 to 40 bytes, whatever these are.
func TestKey(t *testing.T) {
	for _, x := range []struct {
		s    string
		code api.Code
	}{
		{"", api.ErrArg},
		{"k", api.OK},
		{"\x00", api.OK},
		{" ", api.OK},
		{"\xff\xfe", api.OK},
		{strings.Repeat("k", 39), api.OK},
		{strings.Repeat("k", 40), api.OK},
		{strings.Repeat("k", 41), api.ErrSize},
		{strings.Repeat("ä", 20), api.OK},
		{strings.Repeat("ä", 20) + "k", api.ErrSize},
		{strings.Repeat("ä", 21), api.ErrSize},
		{strings.Repeat("\x00", 41), api.ErrSize},
		{strings.Repeat("k", 1<<20), api.ErrSize},
	} {
		if got := octets.Key(x.s); got != x.code {
			t.Errorf("Key of %d bytes: %d, want %d", len(x.s), got, x.code)
		}
	}
}

// 2.9: numbers, bytes and words one behind the other, by chance, there and back.
func TestThereAndBack(t *testing.T) {
	next := source(3)
	for range 500 {
		var b []byte
		var check []func(*octets.Reader) bool
		for range next() % 40 {
			switch next() % 3 {
			case 0:
				n := int(next() >> 1 >> (next() % 63))
				b = octets.Put(b, n)
				check = append(check, func(r *octets.Reader) bool { return r.Number(math.MaxInt) == n })
			case 1:
				text := fill(int(next()%300), byte(next()))
				b = octets.Bytes(b, text)
				check = append(check, func(r *octets.Reader) bool { return bytes.Equal(r.Bytes(len(text)), text) })
			case 2:
				n := next()
				b = octets.Word(b, n)
				check = append(check, func(r *octets.Reader) bool { return r.Word() == n })
			}
		}
		r := octets.Read(b)
		for i, same := range check {
			if !same(r) || r.At()+r.Left() != len(b) {
				t.Fatalf("the part %d of %v is not the same", i, b)
			}
		}
		wantAt(t, r, api.OK, len(b), 0)
	}
}

// R3: what was handed in stays as it was, and what lies behind it; answers share no memory with it.
func TestHandedIn(t *testing.T) {
	for name, put := range map[string]func([]byte) []byte{
		"Put":      func(b []byte) []byte { return octets.Put(b, 300) },
		"Put none": func(b []byte) []byte { return octets.Put(b) },
		"Bytes":    func(b []byte) []byte { return octets.Bytes(b, []byte{5}) },
		"Word":     func(b []byte) []byte { return octets.Word(b, 1<<63) },
	} {
		back := fill(64, 9)
		was := cat(back)
		out := put(back[:10])
		first := cat(out)
		if !bytes.Equal(back, was) {
			t.Errorf("%s wrote behind what was handed in", name)
		}
		clear(out[:cap(out)])
		if !bytes.Equal(back, was) {
			t.Errorf("%s answers what was handed in", name)
		}
		if again := put(back[:10]); !bytes.Equal(again, first) {
			t.Errorf("%s answers %v, then %v", name, first, again)
		}
	}
	text, l := []byte{1, 2, 3}, []int{300, 1}
	out := octets.Bytes(nil, text)
	nums := octets.Put(nil, l...)
	clear(out)
	clear(nums)
	if !bytes.Equal(text, []byte{1, 2, 3}) || l[0] != 300 || l[1] != 1 {
		t.Error("what was handed in is not as it was")
	}
}

// R3: a reader keeps nothing of what was handed in, and hands out nothing of its own.
func TestReaderMemory(t *testing.T) {
	back := cat([]byte{2, 7, 8, 1, 9}, words[4].b, []byte{6, 6})
	was := cat(back)
	r := octets.Read(back[:len(back)-2])
	first := r.Bytes(9)
	clear(first[:cap(first)])
	if !bytes.Equal(back, was) {
		t.Error("what was handed out is what was handed in")
	}
	clear(back)
	second := r.Bytes(9)
	if !bytes.Equal(second, []byte{9}) {
		t.Errorf("the reader reads %v", second)
	}
	clear(second[:cap(second)])
	if n := r.Word(); n != words[4].n {
		t.Errorf("the reader reads %x", n)
	}
	wantAt(t, r, api.OK, 13, 0)
	if r.Number(9); r.Code() != api.ErrShort {
		t.Error("the reader reads behind the list's length")
	}
}

// P0: many numbers, many bytes, and a reader of nothing.
func TestMany(t *testing.T) {
	l := make([]int, 1<<16)
	for i := range l {
		l[i] = i * i
	}
	b := octets.Bytes(octets.Put(nil, l...), fill(1<<20, 1))
	r := octets.Read(b)
	for i := range l {
		if n := r.Number(i * i); n != i*i {
			t.Fatalf("%d is %d", i*i, n)
		}
	}
	if text := r.Bytes(1 << 20); !bytes.Equal(text, fill(1<<20, 1)) || r.End() != api.OK {
		t.Error("many bytes are not the same")
	}
	var none octets.Reader
	wantAt(t, &none, api.OK, 0, 0)
	if none.Word(); none.Code() != api.ErrShort {
		t.Error("a reader of nothing reads")
	}
}

// fill is bytes of a size, all kinds of them from one on.
func fill(size int, from byte) []byte {
	b := make([]byte, size)
	for i := range b {
		b[i] = from + byte(i*7)
	}
	return b
}

// source is numbers that look as if by chance, the same ones at each run.
func source(seed uint64) func() uint64 {
	return func() uint64 {
		seed += 0x9e3779b97f4a7c15
		z := seed
		z = (z ^ z>>30) * 0xbf58476d1ce4e5b9
		z = (z ^ z>>27) * 0x94d049bb133111eb
		return z ^ z>>31
	}
}
