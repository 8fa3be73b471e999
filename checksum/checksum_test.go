package checksum_test

import (
	"bytes"
	"hash/crc32"
	"math"
	"testing"

	"buttery/checksum"
)

// The calls with the signatures that the chapter lists.
var (
	_ func([]byte) uint32         = checksum.Sum
	_ func(uint32, []byte) uint32 = checksum.More
	_ func([]byte) []byte         = checksum.Seal
	_ func([]byte) bool           = checksum.Fits
	_ func(uint32) [4]byte        = checksum.Four
)

// known is texts and their sums, told by others.
var known = []struct {
	text string
	sum  uint32
}{
	{"", 0},
	{"\x00", 0xd202ef8d},
	{"\x00\x00\x00\x00", 0x2144df1c},
	{"\xff\xff\xff\xff", 0xffffffff},
	{"a", 0xe8b7be43},
	{"abc", 0x352441c2},
	{"123456789", 0xcbf43926},
	{"The quick brown fox jumps over the lazy dog", 0x414fa339},
}

// numbers is sums at the edges of bytes and of the whole.
var numbers = []uint32{0, 1, 0x7f, 0x80, 0xff, 0x100, 0xffff, 0x10000, 0xffffff, 0x1000000, 1 << 31, 0xedb88320, 0xcbf43926, 0x01020304, math.MaxUint32 - 1, math.MaxUint32}

// sizes is how many bytes rows have: none, both sides of a sum's and of a page's, and many.
var sizes = []int{0, 1, 2, 3, 4, 5, 7, 8, 9, 31, 32, 33, 233, 252, 256, 257, 4096}

// asWritten is the sum as the chapter's words tell it: n as a number from 0 on, halved, bit by bit.
func asWritten(b []byte) uint32 {
	const all = uint64(1)<<32 - 1
	n := all
	for _, c := range b {
		for place := range 8 {
			bit := uint64(c) / (1 << place) % 2
			other := n%2 != bit
			n /= 2
			if other {
				n ^= 0xedb88320
			}
		}
	}
	return uint32(all - n)
}

// cat is rows of bytes one behind the other, in new memory.
func cat(parts ...[]byte) []byte { return bytes.Join(parts, nil) }

// source is numbers that look as if by chance, the same ones at each run.
func source(seed uint64) func() uint64 {
	return func() uint64 {
		seed += 0x9e3779b97f4a7c15
		z := seed
		z = (z ^ z>>30) * 0xbf58476d1ce4e5b9
		z = (z ^ z>>27) * 0x94d049bb133111eb
		return z ^ z>>31
	}
}

// draw is bytes of a size, as a source tells them.
func draw(size int, next func() uint64) []byte {
	b := make([]byte, size)
	for i := range b {
		b[i] = byte(next())
	}
	return b
}

// turned is bytes with some bits turned: those that are set in bits, from a place on, of each byte the lowest first. False, if one lies behind the end.
func turned(b []byte, from int, bits uint32) ([]byte, bool) {
	out := cat(b)
	for i := range 32 {
		if bits>>i&1 == 0 {
			continue
		}
		at := from + i
		if at >= 8*len(out) {
			return nil, false
		}
		out[at/8] ^= 1 << (at % 8)
	}
	return out, true
}

// 3.1, and the chapter's example: Sum of 123456789 is cbf43926.
func TestExample(t *testing.T) {
	if n := checksum.Sum([]byte("123456789")); n != 0xcbf43926 {
		t.Errorf("%x", n)
	}
}

// 3.1: sums that are known; no bytes at all, nil or not, have the sum 0.
func TestKnown(t *testing.T) {
	for _, x := range known {
		if n := checksum.Sum([]byte(x.text)); n != x.sum {
			t.Errorf("Sum of %q is %x, want %x", x.text, n, x.sum)
		}
	}
	if n := checksum.Sum(nil); n != 0 {
		t.Errorf("Sum of nil is %x", n)
	}
}

// 3.1: held against the chapter's words, and against the library's sum.
func TestSumModel(t *testing.T) {
	next := source(1)
	check := func(b []byte) {
		t.Helper()
		n := checksum.Sum(b)
		if want := asWritten(b); n != want {
			t.Errorf("Sum of %v is %x, by the words %x", b, n, want)
		}
		if want := crc32.ChecksumIEEE(b); n != want {
			t.Errorf("Sum of %v is %x, by the library %x", b, n, want)
		}
	}
	for c := range 256 {
		check([]byte{byte(c)})
		check([]byte{byte(c), 0})
		check([]byte{0, byte(c)})
		check(bytes.Repeat([]byte{byte(c)}, 300))
	}
	for _, size := range sizes {
		check(draw(size, next))
	}
	for range 2000 {
		check(draw(int(next()%70), next))
	}
}

// 3.1: More with nothing behind is the sum itself, whatever it is; behind nothing it is Sum.
func TestMoreNothing(t *testing.T) {
	for _, n := range numbers {
		if got := checksum.More(n, nil); got != n {
			t.Errorf("More(%x, nil) = %x", n, got)
		}
		if got := checksum.More(n, []byte{}); got != n {
			t.Errorf("More(%x) of no bytes = %x", n, got)
		}
	}
	next := source(2)
	for _, size := range sizes {
		b := draw(size, next)
		want := asWritten(b)
		if got := checksum.More(checksum.Sum(nil), b); got != want {
			t.Errorf("More behind nothing of %d bytes is %x, want %x", size, got, want)
		}
		if got := checksum.More(0, b); got != want {
			t.Errorf("More(0) of %d bytes is %x, want %x", size, got, want)
		}
	}
}

// 3.1 and 3.3: a sum goes on, wherever a row is cut, and over many parts.
func TestMoreGoesOn(t *testing.T) {
	next := source(3)
	b := draw(70, next)
	want := asWritten(b)
	for i := range len(b) + 1 {
		head := checksum.Sum(b[:i])
		if got := checksum.More(head, b[i:]); got != want {
			t.Errorf("cut at %d: %x, want %x", i, got, want)
		}
		for j := i; j <= len(b); j++ {
			if got := checksum.More(checksum.More(head, b[i:j]), b[j:]); got != want {
				t.Errorf("cut at %d and %d: %x, want %x", i, j, got, want)
			}
		}
	}
	sum := checksum.Sum(nil)
	for i := range b {
		if sum = checksum.More(sum, b[i:i+1]); sum != asWritten(b[:i+1]) {
			t.Errorf("byte by byte up to %d: %x", i, sum)
		}
	}
}

// 3.1: each number is the sum of some four bytes: More goes on from any of them, as the library's does.
func TestMoreFromAny(t *testing.T) {
	next := source(4)
	for _, n := range append(numbers, uint32(next()), uint32(next())) {
		for _, size := range sizes {
			b := draw(size, next)
			if got, want := checksum.More(n, b), crc32.Update(n, crc32.IEEETable, b); got != want {
				t.Errorf("More(%x) of %d bytes is %x, want %x", n, size, got, want)
			}
		}
	}
}

// 3.2: four bytes, the lowest first.
func TestFour(t *testing.T) {
	for _, x := range []struct {
		n uint32
		b [4]byte
	}{
		{0, [4]byte{}},
		{1, [4]byte{1, 0, 0, 0}},
		{255, [4]byte{255, 0, 0, 0}},
		{256, [4]byte{0, 1, 0, 0}},
		{1 << 16, [4]byte{0, 0, 1, 0}},
		{1 << 24, [4]byte{0, 0, 0, 1}},
		{1 << 31, [4]byte{0, 0, 0, 128}},
		{0x04030201, [4]byte{1, 2, 3, 4}},
		{0xcbf43926, [4]byte{0x26, 0x39, 0xf4, 0xcb}},
		{math.MaxUint32 - 1, [4]byte{254, 255, 255, 255}},
		{math.MaxUint32, [4]byte{255, 255, 255, 255}},
	} {
		if b := checksum.Four(x.n); b != x.b {
			t.Errorf("Four(%x) = %v, want %v", x.n, b, x.b)
		}
	}
	for i := range 32 {
		var want [4]byte
		want[i/8] = 1 << (i % 8)
		if b := checksum.Four(1 << i); b != want {
			t.Errorf("Four of 2^%d = %v, want %v", i, b, want)
		}
	}
}

// 3.2: bytes, and their sum behind, the lowest byte first.
func TestSeal(t *testing.T) {
	if b := checksum.Seal([]byte("123456789")); !bytes.Equal(b, []byte("123456789\x26\x39\xf4\xcb")) {
		t.Errorf("Seal of 123456789 is %v", b)
	}
	for _, none := range [][]byte{nil, {}} {
		if b := checksum.Seal(none); !bytes.Equal(b, []byte{0, 0, 0, 0}) {
			t.Errorf("Seal of nothing is %v", b)
		}
	}
	next := source(5)
	for _, size := range sizes {
		b := draw(size, next)
		n := asWritten(b)
		want := cat(b, []byte{byte(n), byte(n >> 8), byte(n >> 16), byte(n >> 24)})
		if got := checksum.Seal(b); !bytes.Equal(got, want) {
			t.Errorf("Seal of %d bytes is wrong", size)
		}
	}
}

// 3.2: what was sealed fits, also what was sealed more than once.
func TestFits(t *testing.T) {
	next := source(6)
	for _, size := range sizes {
		b := draw(size, next)
		for range 3 {
			b = checksum.Seal(b)
			if !checksum.Fits(b) {
				t.Errorf("Seal of %d bytes does not fit", len(b)-4)
			}
		}
	}
	for _, x := range known {
		n := x.sum
		if !checksum.Fits(cat([]byte(x.text), []byte{byte(n), byte(n >> 8), byte(n >> 16), byte(n >> 24)})) {
			t.Errorf("%q and its sum do not fit", x.text)
		}
	}
}

// 3.2: fewer than four bytes never fit, not even those of a sum that was cut short.
func TestFitsFew(t *testing.T) {
	for _, b := range [][]byte{nil, {}, {0}, {0, 0}, {0, 0, 0}, {255, 255, 255}, {1, 2, 3}, checksum.Seal(nil)[:3]} {
		if checksum.Fits(b) {
			t.Errorf("%v fits", b)
		}
	}
	for a := range 256 {
		for b := range 256 {
			if checksum.Fits([]byte{byte(a)}) || checksum.Fits([]byte{byte(a), byte(b)}) || checksum.Fits([]byte{byte(a), byte(b), 0}) {
				t.Fatalf("%d %d fits", a, b)
			}
		}
	}
}

// 3.2: of just four bytes the seal of nothing alone fits.
func TestFitsFour(t *testing.T) {
	if !checksum.Fits([]byte{0, 0, 0, 0}) {
		t.Error("the seal of nothing does not fit")
	}
	for _, n := range numbers[1:] {
		b := []byte{byte(n), byte(n >> 8), byte(n >> 16), byte(n >> 24)}
		if checksum.Fits(b) {
			t.Errorf("%v fits", b)
		}
	}
	for i := range 32 {
		if b, _ := turned(make([]byte, 4), i, 1); checksum.Fits(b) {
			t.Errorf("%v fits", b)
		}
	}
}

// 3.2: bytes whose last four are another sum do not fit.
func TestFitsOther(t *testing.T) {
	next := source(7)
	for _, size := range sizes {
		b := draw(size, next)
		n := asWritten(b)
		for _, m := range append(numbers, n+1, n-1, ^n, n<<8|n>>24, n>>8|n<<24, uint32(next())) {
			got := checksum.Fits(cat(b, []byte{byte(m), byte(m >> 8), byte(m >> 16), byte(m >> 24)}))
			if got != (m == n) {
				t.Errorf("%d bytes of the sum %x, with %x behind: %v", size, n, m, got)
			}
		}
		turnedRound := []byte{byte(n >> 24), byte(n >> 16), byte(n >> 8), byte(n)}
		if n != 0 && checksum.Fits(cat(b, turnedRound)) {
			t.Errorf("%d bytes with their sum turned round fit", size)
		}
	}
	whole := checksum.Seal([]byte("123456789"))
	for i := range whole {
		if checksum.Fits(whole[:i]) {
			t.Errorf("the first %d bytes of a seal fit", i)
		}
		if i > 0 && checksum.Fits(whole[i:]) {
			t.Errorf("the last %d bytes of a seal fit", len(whole)-i)
		}
	}
	if checksum.Fits(append(cat(whole), 0)) {
		t.Error("a seal with a byte behind fits")
	}
}

// 3.4: some bits within 32 side by side are turned, wherever: in the bytes, in the sum, across both. It does not fit.
func TestTurned(t *testing.T) {
	next := source(8)
	shapes := []uint32{1, 3, 1<<31 | 1, math.MaxUint32, 0xedb88320 | 1, 0xdb710641, 0x04c11db7}
	for run := range 32 {
		shapes = append(shapes, math.MaxUint32>>run)
	}
	for range 100 {
		shapes = append(shapes, uint32(next())|1)
	}
	for _, size := range []int{0, 1, 2, 3, 4, 5, 9, 40, 252} {
		whole := checksum.Seal(draw(size, next))
		for from := range 8 * len(whole) {
			for _, bits := range shapes {
				if b, ok := turned(whole, from, bits); ok && checksum.Fits(b) {
					t.Fatalf("%d bytes, turned from %d on by %x, fit", size, from, bits)
				}
			}
		}
	}
}

// 3.4: every way to turn up to twelve bits side by side, across the bytes and the sum behind them.
func TestTurnedAll(t *testing.T) {
	whole := checksum.Seal([]byte("abc"))
	for from := range 8 * len(whole) {
		for bits := uint32(1); bits < 1<<12; bits += 2 {
			if b, ok := turned(whole, from, bits); ok && checksum.Fits(b) {
				t.Fatalf("turned from %d on by %x, it fits", from, bits)
			}
		}
	}
}

// 3.4: a sum of its own changes, too, where bits within 32 side by side are turned.
func TestTurnedSum(t *testing.T) {
	next := source(9)
	b := draw(64, next)
	n := checksum.Sum(b)
	for from := range 8 * len(b) {
		for _, bits := range []uint32{1, 1<<31 | 1, math.MaxUint32, uint32(next()) | 1} {
			if other, ok := turned(b, from, bits); ok && checksum.Sum(other) == n {
				t.Errorf("turned from %d on by %x, the sum is the same", from, bits)
			}
		}
	}
}

// 3.4: sums are linear: of three rows of one length together the sum is that of their sums.
func TestLinear(t *testing.T) {
	next := source(10)
	for range 50 {
		for _, size := range sizes {
			a, b, c := draw(size, next), draw(size, next), draw(size, next)
			all := make([]byte, size)
			for i := range all {
				all[i] = a[i] ^ b[i] ^ c[i]
			}
			if got, want := checksum.Sum(all), checksum.Sum(a)^checksum.Sum(b)^checksum.Sum(c); got != want {
				t.Errorf("three of %d bytes: %x, want %x", size, got, want)
			}
		}
	}
}

// 3.4: what fits stays so, put together: three seals of one length are one.
func TestLinearSeals(t *testing.T) {
	next := source(11)
	for _, size := range sizes {
		a, b, c := checksum.Seal(draw(size, next)), checksum.Seal(draw(size, next)), checksum.Seal(draw(size, next))
		for i := range a {
			a[i] ^= b[i] ^ c[i]
		}
		if !checksum.Fits(a) {
			t.Errorf("three seals of %d bytes are none", size)
		}
	}
}

// R3: what was handed in stays as it was, and what lies behind it is neither read nor written; a seal is new memory.
func TestHandedIn(t *testing.T) {
	back := draw(64, source(12))
	was := cat(back)
	part := back[:10]
	sealed := checksum.Seal(part)
	first := cat(sealed)
	sum, more, fits := checksum.Sum(part), checksum.More(7, part), checksum.Fits(part)
	if !bytes.Equal(back, was) {
		t.Error("what was handed in is not as it was")
	}
	clear(sealed[:cap(sealed)])
	if !bytes.Equal(back, was) {
		t.Error("a seal is in the memory of what was handed in")
	}
	clear(back[10:])
	if checksum.Sum(part) != sum || checksum.More(7, part) != more || checksum.Fits(part) != fits || !bytes.Equal(checksum.Seal(part), first) {
		t.Error("an answer hangs on what lies behind the list's length")
	}
	// A seal whose last bytes lie behind the length does not fit.
	whole := checksum.Seal([]byte("abc"))
	if checksum.Fits(whole[:3]) || checksum.Fits(whole[:6]) {
		t.Error("Fits reads behind the list's length")
	}
}

// P0: many bytes.
func TestMany(t *testing.T) {
	b := bytes.Repeat([]byte("buttery"), 1<<20)
	if checksum.Sum(b) != crc32.ChecksumIEEE(b) {
		t.Error("the sum of many bytes")
	}
	whole := checksum.Seal(b)
	if !checksum.Fits(whole) {
		t.Error("many bytes do not fit")
	}
	whole[len(whole)/2] ^= 1
	if checksum.Fits(whole) {
		t.Error("many bytes, one bit turned, fit")
	}
}
