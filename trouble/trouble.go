// Package trouble is layer 1: what is wrong, and behind what. See shared/doc/01-trouble.md.
package trouble

import (
	"errors"
	"strconv"
	"strings"

	"buttery/api"
)

// fault is a link, and the error whose links stand behind it; there is none behind a link that has a code.
type fault struct {
	link  api.Step
	under error
}

// pair is two errors together. The first one stands ahead of the second, so that errors.As finds its links alone, while errors.Is goes through both.
type pair struct {
	first, second error
}

// New is a fault; nil, if nothing is wrong.
func New(op string, at int, code api.Code) error {
	if code == api.OK {
		return nil
	}
	return &fault{link: api.Step{Op: op, At: at, Code: code}}
}

// Wrap is a fault with another one under it; nil, if there is none.
func Wrap(op string, at int, err error) error {
	if err == nil {
		return nil
	}
	return &fault{link: api.Step{Op: op, At: at}, under: err}
}

// Both is two faults together, either of which may be none.
func Both(a, b error) error {
	if a == nil {
		return b
	}
	if b == nil {
		return a
	}
	return &pair{first: a, second: b}
}

// Has tells whether a fault, or any under it, is of a code.
func Has(err error, code api.Code) bool {
	return code != api.OK && errors.Is(err, New("has", -1, code))
}

// Of is the code of a fault's last link; OK: there is none.
func Of(err error) api.Code {
	link, _ := last(err)
	return link.Code
}

// Where is at what the last link is; false: there is none.
func Where(err error) (int, bool) {
	link, ok := last(err)
	return link.At, ok
}

// Chain is the links of a fault, the outermost first, up to the one that has a code.
func Chain(err error) []api.Step {
	var links []api.Step
	for f := find(err); f != nil; f = find(f.under) {
		links = append(links, f.link)
	}
	return links
}

// Text is a fault as a text: its links, one behind the other.
func Text(err error) string {
	var parts []string
	for _, link := range Chain(err) {
		parts = append(parts, linkText(link))
	}
	return strings.Join(parts, ": ")
}

// Error is the same text as everywhere, so that a fault reads alike whoever tells of it.
func (f *fault) Error() string { return Text(f) }

// Unwrap lets the library's errors go on to the links behind this one.
func (f *fault) Unwrap() error { return f.under }

// Is holds codes alone against each other: a fault is asked for by what was wrong, whatever was done, and wherever.
func (f *fault) Is(target error) bool {
	return f.link.Code != api.OK && f.link.Code == Of(target)
}

// Error is the text of the first one's links, since these are the pair's.
func (p *pair) Error() string { return Text(p) }

// Unwrap hands out the first one ahead: what is looked for in order is found there.
func (p *pair) Unwrap() []error { return []error{p.first, p.second} }

// find is the outermost fault of an error; nil, if there is none.
func find(err error) *fault {
	var f *fault
	if errors.As(err, &f) {
		return f
	}
	return nil
}

// last is the last link of an error; false, if it has none.
func last(err error) (api.Step, bool) {
	links := Chain(err)
	if len(links) == 0 {
		return api.Step{}, false
	}
	return links[len(links)-1], true
}

// linkText is one link as a text.
func linkText(link api.Step) string {
	s := link.Op
	if link.At >= 0 {
		s += " " + strconv.Itoa(link.At)
	}
	if link.Code != api.OK {
		s += " code " + codeText(link.Code)
	}
	return s
}

// codeText is a code's digits; none below 0 is known, so that it has a mark instead.
func codeText(code api.Code) string {
	if code < 0 {
		return "?"
	}
	return strconv.Itoa(int(code))
}
