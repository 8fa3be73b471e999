package bloom_test

import (
	"hash/fnv"
	"math"
	"math/big"
	"slices"
	"strconv"
	"strings"
	"testing"

	"buttery/bloom"
)

// The calls with the signatures that the chapter lists.
var (
	_ func(string) uint64                           = bloom.Hash
	_ func(uint64) uint64                           = bloom.Mix
	_ func(uint64, int) int                         = bloom.Slot
	_ func(...string) bloom.Filter                  = bloom.Of
	_ func(bloom.Filter, uint64) bloom.Filter       = bloom.Filter.Add
	_ func(bloom.Filter, uint64) bool               = bloom.Filter.May
	_ func(bloom.Filter, bloom.Filter) bloom.Filter = bloom.Both
	_ func(bloom.Filter) int                        = bloom.Filter.Count
	_ [2]uint64                                     = bloom.Filter{}
)

// filterBits is how many bits a filter has.
const filterBits = 128

// keys is keys: without a byte, with bytes that are no text, texts, long ones.
var keys = []string{
	"", "a", "b", "c", "ab", "ba", "abc", "foobar", "\x00", "\x00\x00", "\x80", "\xff", "\xff\xfe", "käse", "\u20ac", "a\x00", "\x00a",
	strings.Repeat("k", 40), strings.Repeat("k", 41), strings.Repeat("\xff", 300), strings.Repeat("key ", 5000),
}

// edges is numbers of 64 bits at both ends, and about where a number is folded.
var edges = []uint64{
	0, 1, 2, 3, 127, 128, 129, 255, 256, 1<<21 - 1, 1 << 21, 1<<31 - 1, 1 << 31, 1<<32 - 1, 1 << 32, 1<<33 - 1, 1 << 33, 1<<33 + 1, 1<<42 - 1, 1 << 42,
	math.MaxInt64 - 1, math.MaxInt64, 1 << 63, 1<<63 + 1, math.MaxUint64 - 1, math.MaxUint64, 14695981039346656037,
}

// source is numbers that look as if by chance, the same ones at each run.
func source(seed uint64) func() uint64 {
	return func() uint64 {
		seed += 0x9e3779b97f4a7c15
		z := seed
		z = (z ^ z>>30) * 0xbf58476d1ce4e5b9
		z = (z ^ z>>27) * 0x94d049bb133111eb
		return z ^ z>>31
	}
}

// hashes is the edges, each bit alone, and many more numbers.
func hashes() []uint64 {
	l := slices.Clone(edges)
	for i := range 64 {
		l = append(l, 1<<i, 1<<i-1, ^uint64(1<<i))
	}
	next := source(1)
	for range 1000 {
		l = append(l, next())
	}
	return l
}

// number is a text of digits as a number of any size.
func number(digits string, base int) *big.Int {
	n, ok := new(big.Int).SetString(digits, base)
	if !ok {
		panic(digits)
	}
	return n
}

// within is what a number of 64 bits keeps of a number.
func within(n *big.Int) *big.Int { return n.Mod(n, number("10000000000000000", 16)) }

// foldedByWords is a number folded: it, exclusive-ored with it less its lowest 33 bits, moved down by 33.
func foldedByWords(n *big.Int) *big.Int {
	step := new(big.Int).Lsh(big.NewInt(1), 33)
	lowest := new(big.Int).Mod(n, step)
	less := new(big.Int).Sub(n, lowest)
	return new(big.Int).Xor(n, less.Div(less, step))
}

// mixByWords is Mix by the chapter's words alone, in numbers of any size.
func mixByWords(h uint64) uint64 {
	n := foldedByWords(new(big.Int).SetUint64(h))
	n = within(n.Mul(n, number("ff51afd7ed558ccd", 16)))
	n = foldedByWords(n)
	n = within(n.Mul(n, number("c4ceb9fe1a85ec53", 16)))
	return foldedByWords(n).Uint64()
}

// hashByWords is Hash by the chapter's words alone, in numbers of any size.
func hashByWords(key string) uint64 {
	n := number("14695981039346656037", 10)
	for _, c := range []byte(key) {
		n.Xor(n, big.NewInt(int64(c)))
		n = within(n.Mul(n, number("1099511628211", 10)))
	}
	return mixByWords(n.Uint64())
}

// setByWords is which of a filter's bits hashes set, by the chapter's words alone.
func setByWords(hashes ...uint64) [filterBits]bool {
	var set [filterBits]bool
	for _, h := range hashes {
		set[h%128] = true
		set[h/(1<<21)%128] = true
		set[h/(1<<42)%128] = true
	}
	return set
}

// bitsOf is which bits of a filter are set: the k-th one is bit k less 64 times (k / 64) of the number k / 64.
func bitsOf(f bloom.Filter) [filterBits]bool {
	var set [filterBits]bool
	for k := range set {
		set[k] = f[k/64]&(1<<(k-64*(k/64))) != 0
	}
	return set
}

// onlyBit is the filter with one bit set.
func onlyBit(k int) bloom.Filter {
	var f bloom.Filter
	f[k/64] = 1 << (k - 64*(k/64))
	return f
}

// spread is the hash whose three places are these.
func spread(a, b, c int) uint64 { return uint64(a) | uint64(b)<<21 | uint64(c)<<42 }

// undone is the number whose product with an odd number, in 64 bits, is n.
func undone(n, by uint64) uint64 {
	inverse := by
	for range 6 {
		inverse *= 2 - by*inverse
	}
	return n * inverse
}

// unmix is the number that Mix stirs to h: a number folded twice is itself, since 33 bits are more than half.
func unmix(h uint64) uint64 {
	h ^= h >> 33
	h = undone(h, 0xc4ceb9fe1a85ec53)
	h ^= h >> 33
	h = undone(h, 0xff51afd7ed558ccd)
	return h ^ h>>33
}

// The chapter's example: in Of(a, b) a may be; in the zero filter nothing may be.
func TestExample(t *testing.T) {
	f := bloom.Of("a", "b")
	if !f.May(bloom.Hash("a")) || !f.May(bloom.Hash("b")) {
		t.Error("a and b are surely not in their filter")
	}
	for _, key := range keys {
		if (bloom.Filter{}).May(bloom.Hash(key)) {
			t.Errorf("%q may be in the zero filter", key)
		}
	}
}

// 7.1: hashes that are known.
func TestHashKnown(t *testing.T) {
	for _, x := range []struct {
		key  string
		want uint64
	}{
		{"", 0xefd01f60ba992926},
		{"a", 0x82a2a958a9bece5b},
		{"b", 0x6e673288764ad2d0},
		{"ab", 0xda71cbd11dd9bde4},
		{"ba", 0x0679519be9cf602c},
		{"foobar", 0x2c22194922d1672b},
		{"\x00", 0xb9034ad37056f5fb},
		{"\x00\x00", 0xdb01c3104e99566d},
		{"\xff", 0x1bbd5c813c69a8d7},
		{"\xff\xfe", 0x75c9056eb1c4b960},
		{"käse", 0x5f36cdeaf19e5148},
		{strings.Repeat("k", 40), 0xf3b15245e33c851d},
	} {
		if h := bloom.Hash(x.key); h != x.want {
			t.Errorf("Hash(%q) = %x, want %x", x.key, h, x.want)
		}
	}
}

// 7.1: a key with no byte is the first number, stirred.
func TestHashNoByte(t *testing.T) {
	if h := bloom.Hash(""); h != bloom.Mix(14695981039346656037) {
		t.Errorf("%x", h)
	}
}

// 7.1: held against the chapter's words, and, ahead of Mix, against the library's hash; each byte, alone, ahead of and behind others.
func TestHashModel(t *testing.T) {
	check := func(key string) {
		t.Helper()
		h := bloom.Hash(key)
		if want := hashByWords(key); h != want {
			t.Errorf("Hash(%q) = %x, by the words %x", key, h, want)
		}
		library := fnv.New64a()
		library.Write([]byte(key))
		if want := bloom.Mix(library.Sum64()); h != want {
			t.Errorf("Hash(%q) = %x, by the library %x", key, h, want)
		}
	}
	for _, key := range keys {
		check(key)
	}
	for c := range 256 {
		b := []byte{byte(c)}
		check(string(b))
		check("a" + string(b))
		check(string(b) + "z")
	}
	next := source(2)
	for range 300 {
		b := make([]byte, next()%60)
		for i := range b {
			b[i] = byte(next())
		}
		check(string(b))
	}
}

// 7.1: keys that differ in one byte, in order, or in length have other hashes.
func TestHashUnlike(t *testing.T) {
	all := slices.Clone(keys)
	for i := range 3000 {
		all = append(all, "key"+strconv.Itoa(i), strings.Repeat("\x00", 3+i%500)+strconv.Itoa(i))
	}
	slices.Sort(all)
	all = slices.Compact(all)
	of := make(map[uint64]int)
	for i, key := range all {
		h := bloom.Hash(key)
		if j, ok := of[h]; ok {
			t.Errorf("%q and %q have the hash %x", all[j], key, h)
		}
		of[h] = i
	}
}

// 7.2: numbers that are known, stirred.
func TestMixKnown(t *testing.T) {
	for _, x := range []struct{ h, want uint64 }{
		{0, 0},
		{1, 0xb456bcfc34c2cb2c},
		{2, 0x3abf2a20650683e7},
		{3, 0x0b5181c509f8d8ce},
		{1 << 32, 0xba3a9e160a5f1419},
		{1<<33 - 1, 0xc08c4a56f3c4443d},
		{1 << 33, 0x6b80f8591e1145c3},
		{1 << 63, 0x8f780810af31a493},
		{math.MaxUint64, 0x64b5720b4b825f21},
		{14695981039346656037, 0xefd01f60ba992926},
	} {
		if h := bloom.Mix(x.h); h != x.want {
			t.Errorf("Mix(%x) = %x, want %x", x.h, h, x.want)
		}
	}
}

// 7.2: held against the chapter's words.
func TestMixModel(t *testing.T) {
	for _, h := range hashes() {
		if got, want := bloom.Mix(h), mixByWords(h); got != want {
			t.Errorf("Mix(%x) = %x, want %x", h, got, want)
		}
	}
}

// 7.6: numbers that are unlike stay unlike, stirred: each can be told from what it was stirred to, and each is one that another was stirred to.
func TestMixUnlike(t *testing.T) {
	of := make(map[uint64]uint64)
	for _, h := range hashes() {
		m := bloom.Mix(h)
		if was := unmix(m); was != h {
			t.Errorf("Mix(%x) = %x is that of %x, too", h, m, was)
		}
		if got := bloom.Mix(unmix(h)); got != h {
			t.Errorf("Mix(%x) = %x, want %x", unmix(h), got, h)
		}
		if other, ok := of[m]; ok && other != h {
			t.Errorf("%x and %x are both stirred to %x", other, h, m)
		}
		of[m] = h
	}
	seen := make(map[uint64]uint64)
	for h := range uint64(100000) {
		m := bloom.Mix(h)
		if other, ok := seen[m]; ok {
			t.Fatalf("%d and %d are both stirred to %x", other, h, m)
		}
		seen[m] = h
	}
}

// 7.3: what n leaves of h.
func TestSlot(t *testing.T) {
	for _, x := range []struct {
		h    uint64
		n    int
		want int
	}{
		{10, 7, 3}, {0, 7, 0}, {6, 7, 6}, {7, 7, 0}, {8, 7, 1}, {10, 10, 0}, {10, 11, 10},
		{10, 1, 0}, {math.MaxUint64, 1, 0}, {math.MaxUint64, 2, 1}, {math.MaxUint64, 10, 5}, {math.MaxUint64, 256, 255},
		{1 << 63, 3, 2}, {1 << 63, 10, 8}, {math.MaxInt64, 10, 7},
		{math.MaxUint64, math.MaxInt, 1}, {1 << 63, math.MaxInt, 1}, {math.MaxInt64, math.MaxInt, 0}, {math.MaxInt64 - 1, math.MaxInt, math.MaxInt - 1},
	} {
		if got := bloom.Slot(x.h, x.n); got != x.want {
			t.Errorf("Slot(%d, %d) = %d, want %d", x.h, x.n, got, x.want)
		}
	}
}

// 7.3: 0, if there are fewer places than one, whatever the hash is.
func TestSlotNoPlace(t *testing.T) {
	for _, n := range []int{0, -1, -2, -7, -128, -(1 << 40), math.MinInt + 1, math.MinInt} {
		for _, h := range hashes() {
			if got := bloom.Slot(h, n); got != 0 {
				t.Errorf("Slot(%d, %d) = %d", h, n, got)
			}
		}
	}
}

// 7.3: held against the chapter's words, in numbers of any size; always one of the places.
func TestSlotModel(t *testing.T) {
	sizes := []int{1, 2, 3, 7, 10, 16, 60, 100, 128, 255, 256, 257, 4096, 1<<31 - 1, 1 << 31, 1 << 32, 1<<40 - 1, 1 << 40, math.MaxInt - 1, math.MaxInt}
	for _, h := range hashes() {
		for _, n := range sizes {
			want := new(big.Int).Mod(new(big.Int).SetUint64(h), big.NewInt(int64(n)))
			got := bloom.Slot(h, n)
			if int64(got) != want.Int64() || got < 0 || got >= n {
				t.Errorf("Slot(%d, %d) = %d, want %v", h, n, got, want)
			}
		}
	}
}

// 7.4: the k-th bit is bit k less 64 times (k / 64) of the number k / 64; a hash whose three places are one has one bit.
func TestAddEachBit(t *testing.T) {
	for k := range filterBits {
		f := bloom.Filter{}.Add(spread(k, k, k))
		if f != onlyBit(k) || f.Count() != 1 {
			t.Errorf("bit %d: %x", k, f)
		}
		for other := range filterBits {
			if f.May(spread(other, other, other)) != (other == k) {
				t.Errorf("bit %d: may %d be in it?", k, other)
			}
		}
	}
}

// 7.4: the places are what 128 leaves of a hash moved down by 0, 21, 42: no other bits of it are of matter.
func TestPlaces(t *testing.T) {
	for _, x := range []struct{ a, b, c int }{{0, 0, 0}, {0, 0, 1}, {0, 1, 0}, {1, 0, 0}, {1, 2, 3}, {63, 64, 65}, {127, 0, 64}, {127, 127, 127}, {5, 70, 5}, {70, 5, 5}} {
		want := bloom.Both(bloom.Both(onlyBit(x.a), onlyBit(x.b)), onlyBit(x.c))
		rest := ^spread(127, 127, 127)
		for _, h := range []uint64{spread(x.a, x.b, x.c), spread(x.a, x.b, x.c) | rest, spread(x.a, x.b, x.c) | 1<<7, spread(x.a, x.b, x.c) | 1<<63} {
			if f := (bloom.Filter{}).Add(h); f != want {
				t.Errorf("%x: %x, want %x", h, f, want)
			}
			if !want.May(h) {
				t.Errorf("%x may not be in %x", h, want)
			}
		}
	}
}

// 7.4: filters that are known; two places of one key are one.
func TestOfKnown(t *testing.T) {
	for _, x := range []struct {
		keys []string
		want bloom.Filter
	}{
		{nil, bloom.Filter{}},
		{[]string{}, bloom.Filter{}},
		{[]string{""}, bloom.Filter{0x4000000080, 0x100000}},
		{[]string{"a"}, bloom.Filter{0x40000000000, 0x8002000}},
		{[]string{"a", "a"}, bloom.Filter{0x40000000000, 0x8002000}},
		{[]string{"a", "b"}, bloom.Filter{0x4040000000000, 0x8013000}},
		{[]string{"\xff"}, bloom.Filter{0, 1<<(87-64) | 1<<(99-64)}},
	} {
		if f := bloom.Of(x.keys...); f != x.want {
			t.Errorf("Of(%q) = %x, want %x", x.keys, f, x.want)
		}
	}
	if f := bloom.Of(); f != (bloom.Filter{}) {
		t.Errorf("Of() = %x", f)
	}
}

// 7.4: Add sets the three bits of a hash, and leaves all others as they are.
func TestAddModel(t *testing.T) {
	next := source(3)
	for _, h := range hashes() {
		if got := bitsOf(bloom.Filter{}.Add(h)); got != setByWords(h) {
			t.Errorf("%x: %v", h, got)
		}
		f := bloom.Filter{next() & next(), next() & next()}
		want := bitsOf(f)
		for k, set := range setByWords(h) {
			want[k] = want[k] || set
		}
		if got := bitsOf(f.Add(h)); got != want {
			t.Errorf("%x into %x: %v", h, f, got)
		}
	}
}

// 7.4: Of is of the hashes of keys, of one and of many.
func TestOfModel(t *testing.T) {
	var l []uint64
	for n, key := range keys {
		l = append(l, hashByWords(key))
		if got := bitsOf(bloom.Of(keys[:n+1]...)); got != setByWords(l...) {
			t.Errorf("of the first %d keys: %v", n+1, got)
		}
		if got := bitsOf(bloom.Of(key)); got != setByWords(l[n]) {
			t.Errorf("of %q: %v", key, got)
		}
	}
}

// 7.4: May tells whether all three bits are set: of whatever filter, and with one of them, or two, left out.
func TestMayModel(t *testing.T) {
	next := source(4)
	for _, h := range hashes() {
		need := setByWords(h)
		for _, f := range []bloom.Filter{{}, {next(), next()}, {next() | next(), next() | next()}, {math.MaxUint64, math.MaxUint64}, {math.MaxUint64, 0}, {0, math.MaxUint64}} {
			want := true
			for k, set := range bitsOf(f) {
				want = want && (set || !need[k])
			}
			if got := f.May(h); got != want {
				t.Errorf("may %x be in %x: %v", h, f, got)
			}
		}
		for k := range filterBits {
			one := onlyBit(k)
			if f := (bloom.Filter{^one[0], ^one[1]}); f.May(h) == need[k] {
				t.Errorf("all but bit %d: may %x be in it?", k, h)
			}
		}
	}
}

// 7.4: in the filter with no bit set nothing may be, in that with all of them everything.
func TestMayNone(t *testing.T) {
	all := bloom.Filter{math.MaxUint64, math.MaxUint64}
	for _, h := range hashes() {
		if (bloom.Filter{}).May(h) || bloom.Of().May(h) {
			t.Errorf("%x may be in the zero filter", h)
		}
		if !all.May(h) {
			t.Errorf("%x is surely not in the filter with all bits", h)
		}
	}
}

// 7.4: a filter of a few keys tells most others to be surely not there.
func TestMayTells(t *testing.T) {
	f := bloom.Of("a", "b", "c", "d")
	wrong := 0
	for i := range 10000 {
		if f.May(bloom.Hash("other" + strconv.Itoa(i))) {
			wrong++
		}
	}
	if wrong > 100 {
		t.Errorf("%d of 10000 keys may be in it", wrong)
	}
}

// 7.5: all bits of both, and no others.
func TestBoth(t *testing.T) {
	next := source(5)
	for range 1000 {
		a, b := bloom.Filter{next(), next()}, bloom.Filter{next() & next(), next() & next()}
		want := bitsOf(a)
		for k, set := range bitsOf(b) {
			want[k] = want[k] || set
		}
		if got := bitsOf(bloom.Both(a, b)); got != want {
			t.Errorf("Both(%x, %x): %v", a, b, got)
		}
		if bloom.Both(a, bloom.Filter{}) != a || bloom.Both(bloom.Filter{}, a) != a || bloom.Both(a, a) != a {
			t.Errorf("%x with nothing, or with itself, is another", a)
		}
	}
	for i := range filterBits {
		for j := range filterBits {
			f := bloom.Both(onlyBit(i), onlyBit(j))
			if f.Count() != 2 && i != j || !f.May(spread(i, j, i)) {
				t.Errorf("bits %d and %d: %x", i, j, f)
			}
		}
	}
}

// 7.5: how many bits are set, none, each alone, all but one, all.
func TestCount(t *testing.T) {
	if n := (bloom.Filter{}).Count(); n != 0 {
		t.Errorf("none: %d", n)
	}
	if n := (bloom.Filter{math.MaxUint64, math.MaxUint64}).Count(); n != filterBits {
		t.Errorf("all: %d", n)
	}
	var some bloom.Filter
	for k := range filterBits {
		one := onlyBit(k)
		if n := one.Count(); n != 1 {
			t.Errorf("bit %d: %d", k, n)
		}
		if n := (bloom.Filter{^one[0], ^one[1]}).Count(); n != filterBits-1 {
			t.Errorf("all but bit %d: %d", k, n)
		}
		some = bloom.Both(some, one)
		if n := some.Count(); n != k+1 {
			t.Errorf("the first %d bits: %d", k+1, n)
		}
	}
	next := source(6)
	for range 1000 {
		f := bloom.Filter{next(), next() & next()}
		want := 0
		for _, set := range bitsOf(f) {
			if set {
				want++
			}
		}
		if n := f.Count(); n != want {
			t.Errorf("%x: %d, want %d", f, n, want)
		}
	}
}

// 7.6: what is in it may be in it, whatever comes behind, or from another filter.
func TestInItMayBe(t *testing.T) {
	var f bloom.Filter
	next := source(7)
	for i, h := range hashes() {
		other := bloom.Filter{next() & next() & next(), next() & next() & next()}
		f = f.Add(h)
		for _, g := range []bloom.Filter{f, bloom.Filter{}.Add(h), other.Add(h), bloom.Both(other, bloom.Filter{}.Add(h)), bloom.Both(bloom.Filter{}.Add(h), other)} {
			if !g.May(h) {
				t.Errorf("hash %d, %x, is surely not in %x", i, h, g)
			}
		}
	}
	whole := bloom.Of(keys...)
	for n, key := range keys {
		if !whole.May(bloom.Hash(key)) || !bloom.Of(keys[:n+1]...).May(bloom.Hash(key)) || !bloom.Of(keys[n:]...).May(bloom.Hash(key)) {
			t.Errorf("%q is surely not in a filter of it", key)
		}
	}
}

// 7.6: order is of no matter, nor is how often something comes, nor how filters are put together.
func TestOrder(t *testing.T) {
	next := source(8)
	whole := bloom.Of(keys...)
	for range 100 {
		l := slices.Clone(keys)
		for i := range l {
			j := int(next() % uint64(i+1))
			l[i], l[j] = l[j], l[i]
		}
		cut := int(next() % uint64(len(l)+1))
		a, b := bloom.Of(l[:cut]...), bloom.Of(l[cut:]...)
		if bloom.Of(l...) != whole || bloom.Of(append(l, l...)...) != whole {
			t.Fatalf("another filter of %q", l)
		}
		if bloom.Both(a, b) != whole || bloom.Both(b, a) != whole {
			t.Fatalf("cut at %d, another filter of %q", cut, l)
		}
	}
	for range 1000 {
		f := bloom.Filter{next() & next(), next() & next()}
		g, h := next(), next()
		if f.Add(g).Add(h) != f.Add(h).Add(g) || f.Add(g).Add(g) != f.Add(g) {
			t.Errorf("%x and %x into %x, in another order", g, h, f)
		}
		if a, b, c := f, f.Add(g), (bloom.Filter{g, h}); bloom.Both(bloom.Both(a, b), c) != bloom.Both(a, bloom.Both(b, c)) {
			t.Errorf("%x, %x and %x, put together in another order", a, b, c)
		}
	}
}

// R3: a filter stays as it was, whatever is added to it, asked of it, or done with what was answered.
func TestFilterStays(t *testing.T) {
	f := bloom.Filter{5, 1 << 40}
	was := f
	g := f.Add(bloom.Hash("a"))
	first := g
	f.May(bloom.Hash("a"))
	f.Count()
	both := bloom.Both(f, g)
	if f != was || g != first {
		t.Error("a filter is not as it was")
	}
	g[0], g[1] = 0, 0
	both[0], both[1] = 0, 0
	if f != was || f.Add(bloom.Hash("a")) != first || bloom.Both(f, first) != first {
		t.Error("an answer hangs on what was done with an earlier one")
	}
	f[0], f[1] = 0, 0
	if first != was.Add(bloom.Hash("a")) || !first.May(bloom.Hash("a")) || first.Count() != 6 {
		t.Error("what was answered hangs on what was handed in")
	}
}

// R3: a list of keys stays as it was, and what lies behind it is neither read nor written; what was answered stays, whatever is done with the list.
func TestKeysStay(t *testing.T) {
	back := []string{"a", "b", "c", "d"}
	part := back[:2]
	f := bloom.Of(part...)
	if !slices.Equal(back, []string{"a", "b", "c", "d"}) {
		t.Errorf("the keys are %q", back)
	}
	if f != bloom.Both(bloom.Of("a"), bloom.Of("b")) || f.May(bloom.Hash("c")) {
		t.Error("what lies behind the list's length is read")
	}
	clear(back)
	if bloom.Of("a", "b") != f || bloom.Of(part...) != bloom.Of("", "") {
		t.Error("a filter hangs on keys of an earlier call")
	}
	b := []byte("key")
	key := string(b)
	h := bloom.Hash(key)
	clear(b)
	if bloom.Hash(key) != h || bloom.Hash("key") != h || bloom.Hash("a key here"[2:5]) != h {
		t.Error("a hash hangs on more than the key's bytes")
	}
}

// P0: keys of many bytes, and many keys.
func TestMany(t *testing.T) {
	long := strings.Repeat("buttery", 1<<20)
	library := fnv.New64a()
	library.Write([]byte(long))
	if bloom.Hash(long) != bloom.Mix(library.Sum64()) {
		t.Error("the hash of many bytes")
	}
	var l []string
	for i := range 100000 {
		l = append(l, strconv.Itoa(i))
	}
	f := bloom.Of(l...)
	if f.Count() != filterBits || !f.May(bloom.Hash("0")) || !f.May(bloom.Hash("99999")) {
		t.Errorf("the filter of many keys: %x", f)
	}
}
