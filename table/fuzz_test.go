package table_test

import (
	"testing"

	"lantern/api"
)

// letter is a record that two bytes name: the one its kind and what it has, the other its session and its bytes.
func letter(a, b byte) api.Record {
	n, turn := int(a)/13, int(b)/16
	s := at(1+int(b)%4, 1+int(b)/4%4)
	own := at(1, 1+int(b)/4%8)
	lengths := []int{0, 0, 6, 7}
	switch a % 13 {
	case 1:
		return boot(1+turn/15, 1+n%4)
	case 2:
		return skip(1 + turn)
	case 3:
		return open(own, 1+n%5)
	case 4:
		return end(own, n%8)
	case 5:
		return told(own)
	case 6:
		return red(s, n%4, lengths[turn%3], lengths[turn/4], letters(n%4, n%4+1+n/4%3, turn%3))
	case 7:
		return done(s)
	case 8:
		return gone(s, n%7)
	case 9:
		return heard(s)
	case 10:
		return shut(s)
	case 11:
		return tomb(s.Origin, s.Number, s.Number+1+n%2, s.Number+4, s.Number+5)
	case 12:
		return past(s, 1+n%3, turn%4)
	}
	return api.Record{Kind: n, Session: s}
}

// Whatever records come: a table does as the model does.
func FuzzTable(f *testing.F) {
	f.Add([]byte{6, 1, 6 + 39, 1, 7, 1, 9, 1, 10, 1, 6, 1})
	f.Add([]byte{3, 0, 3, 4, 4, 0, 5, 0, 2, 0x50, 1 + 13, 0})
	f.Add([]byte{8, 2, 9, 2, 11, 6, 12, 3, 10, 3, 6, 2})
	f.Fuzz(func(t *testing.T, l []byte) {
		if len(l) > 120 {
			return
		}
		x, m := mustLoad(t, b), newModel(b)
		for i := 0; i+1 < len(l); i += 2 {
			r := letter(l[i], l[i+1])
			if want := m.can(r); want != ok {
				refuses(t, x, r, want)
				continue
			}
			mustApply(t, x, r)
			m.apply(r)
			stands(t, x, m)
			wellFormed(t, x.State())
		}
		for _, s := range m.sessions() {
			fatalIf(t, x.Closed(s) != m.closed(s), "Closed %v: %v", s, x.Closed(s))
		}
	})
}
