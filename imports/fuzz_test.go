package imports_test

import (
	"testing"

	"lantern/api"
)

// readCalls are the calls that bytes name, four each.
func readCalls(o opening, b []byte) (l []call) {
	for ; len(b) >= 4; b = b[4:] {
		a, c, d, e := int(b[0]), int(b[1]), int(b[2]), int(b[3])
		serial := o.base + c%16
		switch a % 8 {
		case 0:
			l = append(l, sends(serial))
		case 1:
			l = append(l, lates(serial))
		case 2:
			l = append(l, acks(serial))
		case 3:
			if a > 240 {
				l = append(l, drops())
			}
		default:
			x := o.seg(a/8%9, c%64, c%64+d%64, e%16, o.base+e/16)
			if !isCheck(x) && a != 255 {
				x.Check, x.Report = 0, 0
			}
			l = append(l, takes(x))
		}
	}
	return l
}

// Whatever is called: an import does as its model.
func FuzzImports(f *testing.F) {
	f.Add([]byte{20, 10, 10, 1, 0, 1, 0, 0, 12, 0, 10, 0, 2, 1, 0, 0, 60, 20, 9, 0}, uint8(2), uint8(1), uint8(0))
	f.Add([]byte{12, 0, 9, 1, 0, 1, 0, 0, 1, 1, 0, 0, 0, 1, 0, 0, 1, 1, 0, 0, 28, 9, 9, 2, 243, 0, 0, 0}, uint8(1), uint8(3), uint8(0))
	f.Add([]byte{0, 1, 0, 0, 12, 3, 9, 17, 2, 1, 0, 0, 2, 2, 0, 0}, uint8(1), uint8(1), uint8(9))
	f.Fuzz(func(t *testing.T, b []byte, retry, cycles, came uint8) {
		o := usual().rules(1+int(retry)%5, 1+int(cycles)%5)
		both := begin(t, o)
		if came > 0 {
			have := ones(0, int(came))
			both, _ = again(t, o, api.Incoming{Have: have, Data: dataOf(have)})
		}
		plays(t, both, readCalls(o, b[:min(len(b), 800)]))
	})
}
