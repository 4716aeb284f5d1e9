package extent

import "strongroom/api"

// Rule is how a hole is chosen.
type Rule int

const (
	First Rule = iota
	Best
	Worst
	Next
	rules
)

func isRule(r Rule) bool {
	return r >= First && r < rules
}

// choice tells whether a hole is chosen rather than the one ahead of it that is chosen so far.
type choice func(h, sofar api.Span) bool

// chooser is a rule's choice. The rule Next looks from next on.
func chooser(rule Rule, next int) choice {
	switch rule {
	case Best:
		return func(h, sofar api.Span) bool { return h.Size < sofar.Size }
	case Worst:
		return func(h, sofar api.Span) bool { return h.Size > sofar.Size }
	case Next:
		return func(h, sofar api.Span) bool { return sofar.From < next && h.From >= next }
	}
	return func(_, _ api.Span) bool { return false }
}

// pick is the place of the hole that is chosen of those that have n bytes, and whether there is one.
func pick(holes []api.Span, n int, chosen choice) (int, bool) {
	at, ok := 0, false
	for i, h := range holes {
		if h.Size >= n && (!ok || chosen(h, holes[at])) {
			at, ok = i, true
		}
	}
	return at, ok
}
