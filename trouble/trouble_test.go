package trouble_test

import (
	"errors"
	"fmt"
	"math"
	"slices"
	"strings"
	"testing"

	"buttery/api"
	"buttery/trouble"
)

// The calls with the signatures that the chapter lists.
var (
	_ func(string, int, api.Code) error = trouble.New
	_ func(string, int, error) error    = trouble.Wrap
	_ func(error) []api.Step            = trouble.Chain
	_ func(error, api.Code) bool        = trouble.Has
	_ func(error) api.Code              = trouble.Of
	_ func(error) (int, bool)           = trouble.Where
	_ func(error) string                = trouble.Text
	_ func(error, error) error          = trouble.Both
)

// codes is every code that api names, and some that it does not.
var codes = []api.Code{
	api.OK, api.ErrArg, api.ErrRange, api.ErrSize, api.ErrFull, api.ErrForm, api.ErrShort, api.ErrSum, api.ErrTorn,
	api.ErrNone, api.ErrStale, api.ErrDown, api.ErrKind, api.ErrTwice, api.ErrState, api.ErrLease, api.ErrWord, api.ErrLimit,
	18, 1000, math.MaxInt, -1, -8, math.MinInt,
}

// wrong is codes without OK.
func wrong() []api.Code { return codes[1:] }

func wantChain(t *testing.T, err error, want ...api.Step) {
	t.Helper()
	if got := trouble.Chain(err); !slices.Equal(got, want) {
		t.Errorf("Chain: got %v, want %v", got, want)
	}
}

// wantCodes holds Has against the codes that an error should be of: these, and no others.
func wantCodes(t *testing.T, err error, want ...api.Code) {
	t.Helper()
	for _, c := range codes {
		if got := trouble.Has(err, c); got != slices.Contains(want, c) {
			t.Errorf("Has(%q, %d) = %v", trouble.Text(err), c, got)
		}
	}
}

func wantOf(t *testing.T, err error, want api.Code) {
	t.Helper()
	if got := trouble.Of(err); got != want {
		t.Errorf("Of(%q) = %d, want %d", trouble.Text(err), got, want)
	}
}

func wantWhere(t *testing.T, err error, at int, ok bool) {
	t.Helper()
	if gotAt, gotOk := trouble.Where(err); gotAt != at || gotOk != ok {
		t.Errorf("Where(%q) = %d, %v, want %d, %v", trouble.Text(err), gotAt, gotOk, at, ok)
	}
}

func wantText(t *testing.T, err error, want string) {
	t.Helper()
	if got := trouble.Text(err); got != want {
		t.Errorf("Text = %q, want %q", got, want)
	}
	if err != nil && err.Error() != want {
		t.Errorf("Error = %q, want %q", err.Error(), want)
	}
}

// 1.1: a new fault is of one link; of code OK there is none.
func TestNew(t *testing.T) {
	for _, op := range []string{"page", "", "a b: c", "\x00\xff", "ä"} {
		for _, at := range []int{0, 1, 7, -1, math.MaxInt, math.MinInt} {
			if trouble.New(op, at, api.OK) != nil {
				t.Errorf("New(%q, %d, OK) is a fault", op, at)
			}
			for _, c := range wrong() {
				err := trouble.New(op, at, c)
				if err == nil {
					t.Fatalf("New(%q, %d, %d) is nil", op, at, c)
				}
				wantChain(t, err, api.Step{Op: op, At: at, Code: c})
			}
		}
	}
}

// 1.1: Wrap puts a link without a code ahead; of nil it is nil.
func TestWrap(t *testing.T) {
	if trouble.Wrap("read", 3, nil) != nil || trouble.Wrap("", -1, trouble.New("x", 1, api.OK)) != nil {
		t.Error("no fault was wrapped to a fault")
	}
	inner := trouble.New("page", 7, api.ErrTorn)
	once := trouble.Wrap("read", 3, inner)
	wantChain(t, once, api.Step{Op: "read", At: 3}, api.Step{Op: "page", At: 7, Code: api.ErrTorn})
	more := trouble.Wrap("", -5, trouble.Wrap("get", 0, once))
	wantChain(t, more, api.Step{At: -5}, api.Step{Op: "get"}, api.Step{Op: "read", At: 3}, api.Step{Op: "page", At: 7, Code: api.ErrTorn})
	// What was wrapped is as it was.
	wantChain(t, inner, api.Step{Op: "page", At: 7, Code: api.ErrTorn})
	wantChain(t, once, api.Step{Op: "read", At: 3}, api.Step{Op: "page", At: 7, Code: api.ErrTorn})
	if errors.Unwrap(once) != inner || errors.Unwrap(inner) != nil {
		t.Error("Unwrap is not what was wrapped")
	}
}

// 1.1: Chain of nil has no links; each answer is new memory.
func TestChain(t *testing.T) {
	if l := trouble.Chain(nil); len(l) != 0 {
		t.Errorf("Chain(nil) = %v", l)
	}
	err := trouble.Wrap("read", 3, trouble.New("page", 7, api.ErrTorn))
	l := trouble.Chain(err)
	l[0], l[1] = api.Step{Op: "other"}, api.Step{}
	_ = append(l[:1], api.Step{Op: "behind"})
	wantChain(t, err, api.Step{Op: "read", At: 3}, api.Step{Op: "page", At: 7, Code: api.ErrTorn})
}

// 1.2: a fault has the code of its link, through any wraps, and no other; never OK.
func TestHas(t *testing.T) {
	wantCodes(t, nil)
	for _, c := range wrong() {
		err := trouble.New("page", 7, c)
		for range 4 {
			wantCodes(t, err, c)
			err = trouble.Wrap("read", 3, err)
		}
	}
}

// 1.2: errors.Is tells the same as Has, whatever was done, and wherever.
func TestErrorsIs(t *testing.T) {
	err := trouble.Both(trouble.Wrap("read", 3, trouble.New("page", 7, api.ErrTorn)), trouble.New("sum", 2, api.ErrSum))
	for _, c := range wrong() {
		for _, target := range []error{trouble.New("else", 99, c), trouble.Wrap("w", 1, trouble.New("page", 7, c))} {
			if errors.Is(err, target) != trouble.Has(err, c) {
				t.Errorf("errors.Is and Has are not one of code %d", c)
			}
		}
	}
	if !errors.Is(err, err) || errors.Is(err, nil) || errors.Is(nil, err) {
		t.Error("errors.Is of itself, or of nil")
	}
	if errors.Is(err, errors.New("read 3: page 7 code 8")) {
		t.Error("a fault is an error that is none")
	}
}

// 1.3: the code of the last link, and at what that is, whatever stands ahead.
func TestOfAndWhere(t *testing.T) {
	wantOf(t, nil, api.OK)
	wantWhere(t, nil, 0, false)
	for _, c := range wrong() {
		for _, at := range []int{0, 7, -1, math.MaxInt, math.MinInt} {
			err := trouble.New("page", at, c)
			for i := range 4 {
				wantOf(t, err, c)
				wantWhere(t, err, at, true)
				err = trouble.Wrap("read", 100+i, err)
			}
		}
	}
}

// 1.4: a fault's text, and that it is its Error.
func TestText(t *testing.T) {
	// The chapter's example.
	wantText(t, trouble.Wrap("read", 3, trouble.New("page", 7, api.ErrTorn)), "read 3: page 7 code 8")
	wantText(t, nil, "")
	for _, x := range []struct {
		op   string
		at   int
		code api.Code
		want string
	}{
		{"page", 7, api.ErrTorn, "page 7 code 8"},
		{"page", 0, api.ErrArg, "page 0 code 1"},
		{"page", -1, api.ErrLimit, "page code 17"},
		{"page", math.MinInt, api.ErrSum, "page code 7"},
		{"page", 1 << 40, 1000, "page 1099511627776 code 1000"},
		{"page", math.MaxInt, math.MaxInt, "page 9223372036854775807 code 9223372036854775807"},
		{"page", 3, -1, "page 3 code ?"},
		{"page", -3, math.MinInt, "page code ?"},
		{"", 4, api.ErrForm, " 4 code 5"},
		{"", -4, api.ErrForm, " code 5"},
		{"a: b", 4, api.ErrForm, "a: b 4 code 5"},
		{"\xff%d", 4, api.ErrForm, "\xff%d 4 code 5"},
	} {
		err := trouble.New(x.op, x.at, x.code)
		wantText(t, err, x.want)
		wantText(t, trouble.Wrap("read", 3, err), "read 3: "+x.want)
		wantText(t, trouble.Wrap("read", -1, err), "read: "+x.want)
		wantText(t, trouble.Wrap("", 0, trouble.Wrap("", -9, err)), " 0: : "+x.want)
	}
}

// 1.5: of two of which one is nil it is the other one, the same.
func TestBothOfOne(t *testing.T) {
	err := trouble.Wrap("read", 3, trouble.New("page", 7, api.ErrTorn))
	if trouble.Both(nil, nil) != nil {
		t.Error("Both(nil, nil) is a fault")
	}
	if trouble.Both(err, nil) != err || trouble.Both(nil, err) != err {
		t.Error("Both with nil is not the other one")
	}
}

// 1.5: two together are of the codes of both; the first one's is told.
func TestBoth(t *testing.T) {
	a := trouble.Wrap("read", 3, trouble.New("page", 7, api.ErrTorn))
	b := trouble.New("x", 1, api.ErrSum)
	c := trouble.New("y", -2, -8)
	ab := trouble.Both(a, b)
	wantCodes(t, ab, api.ErrTorn, api.ErrSum)
	wantOf(t, ab, api.ErrTorn)
	wantWhere(t, ab, 7, true)
	wantChain(t, ab, trouble.Chain(a)...)
	wantText(t, ab, "read 3: page 7 code 8")

	ba := trouble.Both(b, a)
	wantCodes(t, ba, api.ErrTorn, api.ErrSum)
	wantOf(t, ba, api.ErrSum)
	wantWhere(t, ba, 1, true)
	wantText(t, ba, "x 1 code 7")

	all := trouble.Both(trouble.Both(c, b), trouble.Wrap("w", 5, trouble.Both(b, a)))
	wantCodes(t, all, api.ErrTorn, api.ErrSum, -8)
	wantOf(t, all, -8)
	wantWhere(t, all, -2, true)

	twice := trouble.Both(a, a)
	wantCodes(t, twice, api.ErrTorn)
	wantOf(t, twice, api.ErrTorn)
	// What was put together is as it was.
	wantCodes(t, a, api.ErrTorn)
	wantCodes(t, b, api.ErrSum)
}

// 1.5: wrapping changes neither a code nor where it is, of two together neither.
func TestWrappingKeeps(t *testing.T) {
	a := trouble.New("page", 7, api.ErrTorn)
	b := trouble.New("x", 1, api.ErrSum)
	err := trouble.Both(trouble.Wrap("one", 11, a), trouble.Wrap("two", 12, b))
	for i := range 5 {
		err = trouble.Wrap("w", 20+i, err)
		wantCodes(t, err, api.ErrTorn, api.ErrSum)
		wantOf(t, err, api.ErrTorn)
		wantWhere(t, err, 7, true)
	}
	wantText(t, err, "w 24: w 23: w 22: w 21: w 20: one 11: page 7 code 8")
}

// model is what an error should be: its links, and all its codes.
type model struct {
	err   error
	links []api.Step
	codes []api.Code
}

// text is the text that the model's links should have.
func (m model) text() string {
	s := ""
	for i, l := range m.links {
		if i > 0 {
			s += ": "
		}
		s += l.Op
		if l.At > -1 {
			s += fmt.Sprintf(" %d", l.At)
		}
		switch {
		case l.Code < 0:
			s += " code ?"
		case l.Code > 0:
			s += fmt.Sprintf(" code %d", l.Code)
		}
	}
	return s
}

// grow makes one more error of those that there are, as the numbers drawn say.
func grow(all []model, draw func(int) int) model {
	a, b := all[draw(len(all))], all[draw(len(all))]
	op := "abc"[:draw(4)]
	at := draw(5) - 2
	switch draw(3) {
	case 0:
		code := codes[draw(len(codes))]
		m := model{err: trouble.New(op, at, code)}
		if code != api.OK {
			m.links, m.codes = []api.Step{{Op: op, At: at, Code: code}}, []api.Code{code}
		}
		return m
	case 1:
		m := model{err: trouble.Wrap(op, at, a.err), codes: a.codes}
		if len(a.links) > 0 {
			m.links = append([]api.Step{{Op: op, At: at}}, a.links...)
		}
		return m
	}
	m := model{err: trouble.Both(a.err, b.err), links: a.links, codes: append(slices.Clone(a.codes), b.codes...)}
	if len(a.links) == 0 {
		m.links = b.links
	}
	return m
}

// 1.1 to 1.5 and P10: errors that are put together anyhow, held against what their parts say.
func TestAgainstModel(t *testing.T) {
	seed := uint32(1)
	draw := func(n int) int {
		seed = seed*1664525 + 1013904223
		return int(seed>>8) % n
	}
	all := []model{{}}
	for range 300 {
		m := grow(all, draw)
		all = append(all, m)
		if (m.err == nil) != (len(m.links) == 0) {
			t.Fatalf("nil or not: %v", m.links)
		}
		wantChain(t, m.err, m.links...)
		wantCodes(t, m.err, m.codes...)
		if len(m.links) == 0 {
			wantOf(t, m.err, api.OK)
			wantWhere(t, m.err, 0, false)
			continue
		}
		end := m.links[len(m.links)-1]
		wantOf(t, m.err, end.Code)
		wantWhere(t, m.err, end.At, true)
		wantText(t, m.err, m.text())
	}
}

// P0, at R7's bound: 2^16 parts that are nested in one another.
func TestDeep(t *testing.T) {
	const deep = 1 << 16
	wraps := trouble.New("page", 7, api.ErrTorn)
	left, right := wraps, trouble.New("x", 1, api.ErrSum)
	for range deep {
		wraps = trouble.Wrap("w", 1, wraps)
		left = trouble.Both(left, trouble.New("y", 2, api.ErrForm))
		right = trouble.Both(trouble.New("y", 2, api.ErrForm), right)
	}
	if n := len(trouble.Chain(wraps)); n != deep+1 {
		t.Errorf("%d links", n)
	}
	if trouble.Text(wraps) != strings.Repeat("w 1: ", deep)+"page 7 code 8" {
		t.Error("the text of many links")
	}
	wantCodes(t, wraps, api.ErrTorn)
	wantOf(t, wraps, api.ErrTorn)
	wantWhere(t, wraps, 7, true)
	wantCodes(t, left, api.ErrTorn, api.ErrForm)
	wantOf(t, left, api.ErrTorn)
	wantWhere(t, left, 7, true)
	wantCodes(t, right, api.ErrSum, api.ErrForm)
	wantOf(t, right, api.ErrForm)
	wantWhere(t, right, 2, true)
}

// foreign is an error that is no fault.
type foreign []string

func (foreign) Error() string { return "foreign" }

// P0: nothing is promised of errors that are no faults, but no call falls over one.
func TestForeign(t *testing.T) {
	for _, err := range []error{errors.New("foreign"), foreign{"x"}} {
		wantChain(t, err)
		wantCodes(t, err)
		wantOf(t, err, api.OK)
		wantWhere(t, err, 0, false)
		wantCodes(t, trouble.Wrap("read", 3, err))
		wantText(t, trouble.Wrap("read", 3, err), "read 3")
		wantCodes(t, trouble.Both(err, trouble.New("x", 1, api.ErrSum)), api.ErrSum)
	}
}
