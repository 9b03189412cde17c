package report_test

import (
	"math/rand"
	"slices"
	"testing"

	"lantern/api"
)

// What the chapter says, read a second time: bytes are counted one by one, and each number of claims is tried.

const (
	top   = api.MaxNum
	whole = api.MaxBlock
	limit = api.MaxSpans
	most  = api.MaxClaims
	least = -1 << 63
)

var home = api.Session{Origin: 1, Number: 5}

func span(from, to int) api.Span { return api.Span{From: from, To: to} }

// spans makes a list of numbers, two a span.
func spans(l ...int) (s []api.Span) {
	for i := 0; i < len(l); i += 2 {
		s = append(s, span(l[i], l[i+1]))
	}
	return s
}

// comb is so many spans of one byte each, step bytes apart.
func comb(from, n, step int) (l []api.Span) {
	for i := range n {
		l = append(l, span(from+step*i, from+step*i+1))
	}
	return l
}

// runs are the bytes from lower on, below upper, that are of have, or those that are not, as spans.
func runs(have []api.Span, lower, upper int, came bool) (l []api.Span) {
	i := 0
	for b := lower; b < upper; b++ {
		for i < len(have) && have[i].To <= b {
			i++
		}
		in := i < len(have) && have[i].From <= b
		if in != came {
			continue
		}
		if n := len(l); n > 0 && l[n-1].To == b {
			l[n-1].To++
		} else {
			l = append(l, span(b, b+1))
		}
	}
	return l
}

// digits is how many bytes a number has.
func digits(n int) int {
	k := 1
	for n > 127 {
		n /= 128
		k++
	}
	return k
}

// length is how many bytes a report's segment has.
func length(s api.Session, r api.Report) int {
	n := 1 + digits(s.Origin) + digits(s.Number) + 1
	n += digits(r.Serial) + digits(r.Check) + digits(r.Upper) + digits(r.Lower) + digits(len(r.Claims))
	for _, c := range r.Claims {
		n += digits(c.From-r.Lower) + digits(c.To-c.From)
	}
	return n
}

// modelReports are the reports of P5.1, word by word, whatever their serials are.
func modelReports(s api.Session, mtu int, have []api.Span, lower, upper, check, serial int) (l []api.Report) {
	left := runs(have, lower, upper, true)
	for len(left) > 0 {
		var best api.Report
		for n := 1; n <= len(left) && n <= most; n++ {
			r := api.Report{Serial: serial, Check: check, Lower: lower, Upper: upper, Claims: left[:n]}
			if n < len(left) {
				r.Upper = left[n].From
			}
			if length(s, r) <= mtu {
				best = r
			}
		}
		l = append(l, best)
		left, lower, serial = left[len(best.Claims):], best.Upper, serial+1
	}
	return l
}

// modelMissing are the gaps of P5.2.
func modelMissing(have []api.Span, lower, upper int) []api.Span {
	l := runs(have, lower, upper, false)
	return l[:min(len(l), limit)]
}

func same(a, b []api.Span) bool { return slices.Equal(a, b) }

func sameReport(a, b api.Report) bool {
	return a.Serial == b.Serial && a.Check == b.Check && a.Upper == b.Upper && a.Lower == b.Lower && same(a.Claims, b.Claims)
}

func sameReports(a, b []api.Report) bool { return slices.EqualFunc(a, b, sameReport) }

// head is the first of some items: enough to tell which list it was.
func head[T any](l []T) []T { return l[:min(len(l), 8)] }

func fatalIf(t *testing.T, bad bool, words string, what ...any) {
	t.Helper()
	if bad {
		t.Fatalf(words, what...)
	}
}

// sessions are such as may be, with numbers of all lengths.
func sessions() []api.Session {
	return []api.Session{home, {Origin: 128, Number: 127}, {Origin: top, Number: top - 1}}
}

// noSession are sessions that may not be.
func noSession() []api.Session {
	return []api.Session{{Origin: 0, Number: 5}, {Origin: 1, Number: 0}, {Origin: -1, Number: 5}, {Origin: 1, Number: -1}, {Origin: top + 1, Number: 5}, {Origin: 1, Number: top}, {Origin: 1, Number: top + 1}, {Origin: least, Number: least}, {}}
}

// noSet are lists of spans that are no set.
func noSet() [][]api.Span {
	return [][]api.Span{spans(3, 3), spans(5, 4), spans(-1, 3), spans(0, 3, 3, 9), spans(5, 9, 0, 3), spans(0, 3, 2, 9), spans(0, top+1), spans(least, 1<<63-1), comb(0, limit+1, 2)}
}

// noBounds are bounds of a report that may not be.
func noBounds() [][2]int {
	return [][2]int{{5, 5}, {6, 5}, {0, 0}, {-1, 5}, {-1, -1}, {0, whole + 1}, {whole, whole}, {whole, whole + 1}, {least, 5}, {0, 1<<63 - 1}, {1<<63 - 1, least}}
}

// numberless are numbers that may not be, from a lowest one on.
func numberless(low int) []int { return []int{low - 1, -1, -top, top + 1, 1<<63 - 1, least} }

// smallSets are all sets of bytes from 0 to n.
func smallSets(n int) (l [][]api.Span) {
	for bits := range 1 << n {
		var set []api.Span
		for b := range n {
			if bits>>b&1 == 0 {
				continue
			}
			if k := len(set); k > 0 && set[k-1].To == b {
				set[k-1].To++
			} else {
				set = append(set, span(b, b+1))
			}
		}
		l = append(l, set)
	}
	return l
}

// anySet is a set of up to n spans, as far apart and as long as wide says.
func anySet(r *rand.Rand, n, wide int) (l []api.Span) {
	at := r.Intn(wide)
	for range r.Intn(n + 1) {
		to := at + 1 + r.Intn(wide)
		l = append(l, span(at, to))
		at = to + 1 + r.Intn(wide)
	}
	return l
}

// anyNumber is a number of any length, from a lowest one on.
func anyNumber(r *rand.Rand, low int) int {
	return max(low, r.Intn(1<<62)>>r.Intn(62))
}
