package export_test

import (
	"testing"

	"lantern/api"
)

// readCalls are the calls that bytes name, four each.
func readCalls(o opening, b []byte) (l []call) {
	for ; len(b) >= 4; b = b[4:] {
		a, c, d, e := int(b[0]), int(b[1]), int(b[2]), int(b[3])
		switch a % 4 {
		case 0:
			l = append(l, out(o.s, c%8, d, o.base+e%8))
		case 1:
			l = append(l, lates(o.base+c%8))
		case 2:
			r := api.Report{Serial: 1 + a/4, Check: o.base + c%8, Lower: c / 8, Upper: d}
			for at := r.Lower; at < d; at += 1 + e/16 {
				r.Claims = append(r.Claims, span(at, at+1+e%16))
				at += 1 + e%16
			}
			l = append(l, reports(r))
		default:
			if a > 240 {
				l = append(l, finishes())
			}
			first := o.first()
			x := first[c%len(first)]
			l = append(l, out(o.s, x.Type, x.From, x.Check))
		}
	}
	return l
}

// Whatever is called: an export does as its model.
func FuzzExport(f *testing.F) {
	f.Add([]byte{3, 0, 0, 0, 3, 1, 0, 0, 3, 2, 0, 0, 2, 1, 200, 40, 0, 1, 145, 2}, uint8(200), uint8(200), uint8(0), false)
	f.Add([]byte{3, 0, 0, 0, 1, 1, 0, 0, 3, 0, 0, 0, 1, 1, 0, 0, 6, 1, 90, 255}, uint8(250), uint8(180), uint8(1), true)
	f.Add([]byte{243, 0, 0, 0}, uint8(30), uint8(0), uint8(2), false)
	f.Fuzz(func(t *testing.T, b []byte, size, red, every uint8, again bool) {
		n := max(1, int(size))
		o := usual(n, min(n, int(red))).every(int(every)%5).rules(1+int(every)%3, 1+int(red)%4)
		if again && o.p.Red > 0 {
			o = o.reopened()
		}
		plays(t, o, readCalls(o, b[:min(len(b), 600)]))
	})
}
