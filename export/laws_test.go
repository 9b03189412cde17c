package export_test

import (
	"math/rand/v2"
	"slices"
	"testing"

	"lantern/api"
	"lantern/report"
)

// receiver answers each checkpoint that comes, by what came.
type receiver struct {
	s      api.Session
	mtu    int
	came   []bool // each byte of the red part
	lowers map[int]int
	made   map[int][]api.Report // by check numbers, if those that were made are sent again
	serial int
	fresh  bool // each time that a checkpoint comes, new reports are made
}

func newReceiver(o opening, fresh bool) *receiver {
	return &receiver{s: o.s, mtu: o.p.Mtu, came: make([]bool, o.p.Red), lowers: map[int]int{}, made: map[int][]api.Report{}, fresh: fresh}
}

func (r *receiver) takes(t *testing.T, x api.Segment) []api.Report {
	if x.Type > api.RedLast {
		return nil
	}
	end := x.Offset + len(x.Data)
	for i := x.Offset; i < end; i++ {
		r.came[i] = true
	}
	if x.Check == 0 {
		return nil
	}
	if l := r.made[x.Check]; l != nil && !r.fresh {
		return l
	}
	lower := r.lowers[x.Report]
	if lower >= end {
		lower = 0
	}
	l, e := report.Make(r.s, r.mtu, spans(r.came, 0, len(r.came), true), lower, end, x.Check, r.serial+1)
	fatalIf(t, e != ok || len(l) == 0, "no report of %v: %v", x, e)
	for _, one := range l {
		r.serial = one.Serial
		r.lowers[one.Serial] = one.Lower
	}
	r.made[x.Check] = l
	return l
}

// link brings an export's segments to a receiver, and its reports back.
type link struct {
	*both
	r        *receiver
	lost     func(n int) bool // whether what goes over it as the nth is
	pick     func(n int) int  // which of n that are there is next
	waiting  []api.Segment
	underway []any // api.Segment or api.Report
	started  []int // the checkpoints whose timers run
	n        int   // what went over it
	losses   int
	end      api.Moves // Done or Over
}

// moves does what an answer says.
func (l *link) moves(m api.Moves) {
	for _, check := range m.Stop {
		l.started = slices.DeleteFunc(l.started, func(x int) bool { return x == check })
	}
	l.waiting = append(l.waiting, m.Send...)
	for _, check := range m.Start {
		if !slices.Contains(l.started, check) {
			l.started = append(l.started, check)
		}
	}
	if m.Done || m.Over {
		l.end = m
	}
}

// goes puts something on its way, if it is not lost.
func (l *link) goes(x any) {
	l.n++
	if l.lost(l.n) {
		l.losses++
		return
	}
	l.underway = append(l.underway, x)
}

// arrives brings something that was under way.
func (l *link) arrives(t *testing.T, at int) {
	x := l.underway[at]
	l.underway = slices.Delete(l.underway, at, at+1)
	switch x := x.(type) {
	case api.Segment:
		for _, r := range l.r.takes(t, x) {
			l.goes(r)
		}
	case api.Report:
		l.moves(l.does(t, reports(x)))
	}
}

// step lets something go out or arrive; if there is nothing, what is not answered is late. It tells whether there was anything to do.
func (l *link) step(t *testing.T) bool {
	n := len(l.underway)
	if len(l.waiting) > 0 {
		n++
	}
	switch at := 0; {
	case n > 0:
		at = l.pick(n)
		if at < len(l.underway) {
			l.arrives(t, at)
			break
		}
		x := l.waiting[0]
		l.waiting = l.waiting[1:]
		l.moves(l.does(t, sends(x)))
		l.goes(x)
	case len(l.started) > 0:
		// Each runs out once, and runs again when it has gone out again.
		out := l.started
		l.started = nil
		for _, check := range out {
			if l.end.Over {
				break
			}
			l.moves(l.does(t, lates(check)))
		}
	default:
		return false
	}
	return true
}

// runs plays till it is Done or Over.
func (l *link) runs(t *testing.T) {
	t.Helper()
	for steps := 0; !l.end.Done && !l.end.Over; steps++ {
		fatalIf(t, !l.step(t), "nothing is to be done, and it is neither Done nor Over")
		fatalIf(t, steps > 300000, "it does not end")
	}
}

func newLink(t *testing.T, o opening, fresh bool, lost func(int) bool, pick func(int) int) *link {
	t.Helper()
	b := begin(t, o)
	return &link{both: b, r: newReceiver(o, fresh), lost: lost, pick: pick, waiting: b.first}
}

func first(int) int    { return 0 }
func last(n int) int   { return n - 1 }
func middle(n int) int { return n / 2 }

// arrived wants that it was Done, and that all red bytes came; then it ends.
func (l *link) arrived(t *testing.T, what ...any) {
	t.Helper()
	l.runs(t)
	fatalIf(t, !l.end.Done, "%v: %v behind %d losses", what, l.end, l.losses)
	fatalIf(t, slices.Contains(l.r.came, false), "%v: Done, and not all came", what)
	l.does(t, finishes())
	fatalIf(t, !l.Whole() || l.Pending() != 0, "%v: it is not whole", what)
}

// Whichever of what goes over a link is lost, as long as it is less than Retry: it arrives.
func TestP1210Arrives(t *testing.T) {
	t.Parallel()
	for _, o := range []opening{usual(200, 200), usual(200, 200).every(1), usual(290, 220).every(2), usual(300, 150).every(1).reopened(), usual(1, 1)} {
		o = o.rules(4, 1000)
		for way, pick := range []func(int) int{first, last, middle} {
			for _, fresh := range []bool{false, true} {
				for a := range 14 {
					for b := range a + 1 {
						for c := range b + 1 {
							// 0: none; so fewer are lost, too.
							lost := func(n int) bool { return n == a || n == b || n == c }
							newLink(t, o, fresh, lost, pick).arrived(t, o.p, o.again, "way", way, fresh, a, b, c)
						}
					}
				}
			}
		}
	}
}

// Likewise of greater blocks, with losses by chance.
func TestP1210ArrivesByChance(t *testing.T) {
	t.Parallel()
	for seed := range uint64(400) {
		draw := rand.New(rand.NewPCG(seed, 1210))
		o := drawn(draw).rules(2+draw.IntN(99), 1000)
		if o.p.Red == 0 {
			continue
		}
		left := draw.IntN(o.r.Retry)
		odds := 1 + draw.IntN(6)
		lost := func(int) bool {
			if left == 0 || draw.IntN(odds) != 0 {
				return false
			}
			left--
			return true
		}
		newLink(t, o, draw.IntN(2) == 0, lost, draw.IntN).arrived(t, seed, o.p, o.again)
	}
}

// drawn is some opening that can be.
func drawn(draw *rand.Rand) opening {
	size := 1 + draw.IntN(1200)
	o := usual(size, draw.IntN(size+1))
	switch draw.IntN(4) {
	case 0:
		o = usual(size, size)
	case 1:
		o.p.Mtu = 80 + draw.IntN(300)
	case 2:
		o.s = api.Session{Origin: 1 + draw.IntN(top), Number: 1 + draw.IntN(top-1)}
		o.p.Service = draw.IntN(top)
	}
	o = o.every(draw.IntN(5)).rules(1+draw.IntN(3), 1+draw.IntN(5))
	if draw.IntN(2) == 0 {
		o = o.from(draw.IntN(top - 1<<24 + 1))
	}
	if o.p.Red > 0 && draw.IntN(4) == 0 {
		o = o.reopened()
	}
	return o
}

// Whatever is lost, who calls Late comes to Done or to Over; what Done tells holds.
func TestP128Ends(t *testing.T) {
	t.Parallel()
	over := 0
	for seed := range uint64(600) {
		draw := rand.New(rand.NewPCG(seed, 128))
		o := drawn(draw)
		if o.p.Red == 0 {
			continue
		}
		odds := draw.IntN(11)
		l := newLink(t, o, draw.IntN(2) == 0, func(int) bool { return draw.IntN(10) < odds }, draw.IntN)
		l.runs(t)
		fatalIf(t, l.end.Done && slices.Contains(l.r.came, false), "seed %d: Done, and not all came", seed)
		if l.end.Over {
			over++
		}
	}
	fatalIf(t, over < 50 || over > 550, "Over for %d times", over)
}

// If all is lost, the last checkpoint goes out Retry times more than once.
func TestP128AllLost(t *testing.T) {
	for retry := 1; retry <= 100; retry += 33 {
		o := usual(200, 200).rules(retry, 1)
		l := newLink(t, o, false, func(int) bool { return true }, first)
		l.runs(t)
		fatalIf(t, !l.end.Over || l.end.Why != api.ByRetry || l.n != 3+retry, "Retry %d: %v behind %d segments", retry, l.end, l.n)
	}
}

// drawnReport is one that often may be, and often says something new.
func drawnReport(draw *rand.Rand, b *both) api.Report {
	r := api.Report{Serial: 1 + draw.IntN(40), Check: b.m.base + draw.IntN(9)}
	lower, upper := draw.IntN(b.m.p.Red+20), draw.IntN(b.m.p.Red+20)
	r.Lower, r.Upper = min(lower, upper), max(lower, upper)+1
	if draw.IntN(2) == 0 {
		r.Lower = 0
	}
	at := r.Lower
	for range 1 + draw.IntN(4) {
		from := at + draw.IntN(30)
		to := from + 1 + draw.IntN(60)
		if to > r.Upper {
			break
		}
		r.Claims = append(r.Claims, span(from, to))
		at = to + draw.IntN(8)
	}
	return r
}

// drawnCall is some call, most of what was put or of what there is.
func drawnCall(draw *rand.Rand, b *both, put []api.Segment) call {
	switch n := draw.IntN(100); {
	case n < 45:
		x := put[draw.IntN(len(put))]
		if draw.IntN(20) == 0 {
			x.Check += draw.IntN(5) - 2
		}
		return sends(x)
	case n < 70:
		return lates(b.m.base + draw.IntN(9))
	case n < 99:
		return reports(drawnReport(draw, b))
	}
	return finishes()
}

// Long rows of calls by chance, against the model: P12.8, P12.9 and P12.11 are asked behind each.
func TestP129LongRows(t *testing.T) {
	t.Parallel()
	for seed := range uint64(1500) {
		draw := rand.New(rand.NewPCG(seed, 129))
		b := begin(t, drawn(draw))
		put := slices.Clone(b.first)
		for range 60 {
			put = append(put, b.does(t, drawnCall(draw, b, put)).Send...)
		}
	}
}

// Two exports side by side, of one session and of two: what is done with the one is nothing to the other.
func TestP127SideBySide(t *testing.T) {
	t.Parallel()
	for seed := range uint64(500) {
		draw := rand.New(rand.NewPCG(seed, 127))
		o := drawn(draw)
		p := o
		if draw.IntN(2) == 0 {
			p = drawn(draw)
		}
		two := []*both{begin(t, o), begin(t, p)}
		put := [][]api.Segment{slices.Clone(two[0].first), slices.Clone(two[1].first)}
		for range 60 {
			i := draw.IntN(2)
			put[i] = append(put[i], two[i].does(t, drawnCall(draw, two[i], put[draw.IntN(2)])).Send...)
			wrong := two[1-i].looks()
			fatalIf(t, wrong != "", "the other one: %s", wrong)
		}
	}
}
