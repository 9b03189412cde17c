package lines_test

import "testing"

// readCalls are the calls that bytes name, two each; what is put is marked by its place.
func readCalls(b []byte) (l []call) {
	for i := 0; i+1 < len(b); i += 2 {
		a, c := int(b[i]), int(b[i+1])
		s := session(1+c%2, 1+c/2%2)
		switch {
		case a < 160:
			l = append(l, puts(c/4%4, some(types()[a%12], s, i)))
		case a < 230:
			l = append(l, takes(c/4%4, a%8-1))
		default:
			l = append(l, drops(s, a%2 == 0))
		}
	}
	return l
}

// Whatever is called: lines do as a list that is gone through.
func FuzzLines(f *testing.F) {
	f.Add([]byte{1, 0, 4, 8, 7, 4, 3, 4, 0, 8, 162, 4, 163, 8}, 2)
	f.Add([]byte{0, 4, 6, 4, 7, 5, 5, 4, 231, 4, 230, 4, 167, 4}, 1)
	f.Add([]byte{9, 4, 9, 5, 9, 6, 161, 4, 9, 7, 240, 0}, 0)
	f.Fuzz(func(t *testing.T, b []byte, limit int) {
		plays(t, limit, readCalls(b[:min(len(b), 600)]), 0, 1, 2, 3)
	})
}
