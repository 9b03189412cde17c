package sdnv_test

import (
	"bytes"
	"math"
	"math/big"
	"math/rand"
	"slices"
	"testing"

	"lantern/api"
	"lantern/sdnv"
)

// digits are the digits of a number to the base 128, the highest first, by long division.
func digits(n uint64) []byte {
	rest, base, digit := new(big.Int).SetUint64(n), big.NewInt(128), new(big.Int)
	var out []byte
	for len(out) == 0 || rest.Sign() > 0 {
		rest.DivMod(rest, base, digit)
		out = append([]byte{byte(digit.Int64())}, out...)
	}
	return out
}

// wantBytes is what the chapter says of a number's bytes.
func wantBytes(n uint64) []byte {
	out := digits(n)
	for i := range len(out) - 1 {
		out[i] += 128
	}
	return out
}

// wantRead goes through the rows of P1.2's table in their order, with numbers that have no end.
func wantRead(b []byte) (uint64, int, api.Errno) {
	sum := new(big.Int)
	for i := 0; ; i++ {
		if i == len(b) {
			return 0, 0, api.ErrSdnvShort
		}
		if i == 0 && b[0] == 128 {
			return 0, 0, api.ErrSdnvForm
		}
		sum.Mul(sum, big.NewInt(128))
		sum.Add(sum, big.NewInt(int64(b[i]%128)))
		if !sum.IsUint64() {
			return 0, 0, api.ErrSdnvRange
		}
		if b[i] < 128 {
			return sum.Uint64(), i + 1, api.OK
		}
	}
}

// numbers are those at which something changes, their neighbours, and some of each length.
func numbers() []uint64 {
	out := []uint64{0, 1, 2, 5, 64, 126, 300, math.MaxUint64 - 1, math.MaxUint64}
	for bit := range 64 {
		out = append(out, 1<<bit-1, 1<<bit, 1<<bit+1)
	}
	r := rand.New(rand.NewSource(1))
	for i := range 2000 {
		out = append(out, r.Uint64()>>(i%64))
	}
	slices.Sort(out)
	return slices.Compact(out)
}

// rows are rows of bytes, right and wrong.
func rows() [][]byte {
	out := [][]byte{nil, {}}
	for a := range 256 {
		out = append(out, []byte{byte(a)})
		for b := range 256 {
			out = append(out, []byte{byte(a), byte(b)})
		}
	}
	for _, n := range numbers() {
		b := wantBytes(n)
		out = append(out, b, b[:len(b)-1], append([]byte{128}, b...), append(slices.Clone(b), 128))
	}
	edges := []byte{0, 1, 127, 128, 129, 130, 255}
	for _, first := range edges {
		for _, middle := range edges {
			for size := 3; size <= 13; size++ {
				for _, last := range edges {
					out = append(out, row(first, middle, size-2, last))
				}
			}
		}
	}
	r := rand.New(rand.NewSource(2))
	for range 5000 {
		b := make([]byte, r.Intn(14))
		for i := range b {
			b[i] = byte(r.Intn(256) | r.Intn(2)<<7)
		}
		out = append(out, b)
	}
	return out
}

// row is a first byte, another one so many times, and what stands behind.
func row(first, middle byte, times int, behind ...byte) []byte {
	out := append([]byte{first}, bytes.Repeat([]byte{middle}, times)...)
	return append(out, behind...)
}

func checkRead(t *testing.T, b []byte) {
	t.Helper()
	n, k, e := sdnv.Read(b)
	if wn, wk, we := wantRead(b); n != wn || k != wk || e != we {
		t.Errorf("Read(%v) = %d, %d, %d; want %d, %d, %d", b, n, k, e, wn, wk, we)
	}
}

func TestErrorNumbers(t *testing.T) {
	if api.ErrSdnvShort != 10 || api.ErrSdnvForm != 11 || api.ErrSdnvRange != 12 || api.OK != 0 {
		t.Error("the errors have other numbers than chapter 1 says")
	}
}

// P1.1: the examples, written out.
func TestBytesExamples(t *testing.T) {
	for _, c := range []struct {
		n uint64
		b []byte
	}{
		{0, []byte{0}},
		{127, []byte{127}},
		{128, []byte{129, 0}},
		{300, []byte{130, 44}},
		{16383, []byte{255, 127}},
		{16384, []byte{129, 128, 0}},
		{1<<63 - 1, row(255, 255, 7, 127)},
		{1 << 63, row(129, 128, 8, 0)},
		{math.MaxUint64, row(129, 255, 8, 127)},
	} {
		if b := sdnv.Bytes(c.n); !bytes.Equal(b, c.b) {
			t.Errorf("Bytes(%d) = %v, want %v", c.n, b, c.b)
		}
		if k := sdnv.Size(c.n); k != len(c.b) {
			t.Errorf("Size(%d) = %d, want %d", c.n, k, len(c.b))
		}
	}
}

// P1.1: every number, held against long division.
func TestBytesAreTheDigits(t *testing.T) {
	for _, n := range numbers() {
		want := wantBytes(n)
		if b := sdnv.Bytes(n); !bytes.Equal(b, want) {
			t.Errorf("Bytes(%d) = %v, want %v", n, b, want)
		}
		if k := sdnv.Size(n); k != len(want) {
			t.Errorf("Size(%d) = %d, want %d", n, k, len(want))
		}
	}
}

// P1.2: the examples and the edges, written out.
func TestReadExamples(t *testing.T) {
	for _, c := range []struct {
		b []byte
		n uint64
		k int
		e api.Errno
	}{
		{nil, 0, 0, api.ErrSdnvShort},
		{[]byte{}, 0, 0, api.ErrSdnvShort},
		{[]byte{130}, 0, 0, api.ErrSdnvShort},
		{[]byte{255, 255}, 0, 0, api.ErrSdnvShort},
		{[]byte{129, 128}, 0, 0, api.ErrSdnvShort},
		{[]byte{128}, 0, 0, api.ErrSdnvForm},
		{[]byte{128, 5}, 0, 0, api.ErrSdnvForm},
		{[]byte{128, 0}, 0, 0, api.ErrSdnvForm},
		{row(128, 128, 12), 0, 0, api.ErrSdnvForm},
		{row(128, 255, 12), 0, 0, api.ErrSdnvForm},
		{[]byte{0}, 0, 1, api.OK},
		{[]byte{0, 128}, 0, 1, api.OK},
		{[]byte{127, 255, 255}, 127, 1, api.OK},
		{[]byte{129, 0}, 128, 2, api.OK},
		{[]byte{130, 44, 7}, 300, 2, api.OK},
		{[]byte{129, 128, 0}, 16384, 3, api.OK},
		{row(129, 255, 8, 127), math.MaxUint64, 10, api.OK},
		{row(129, 255, 8, 127, 9), math.MaxUint64, 10, api.OK},
		{row(129, 255, 8, 127, 128), math.MaxUint64, 10, api.OK},
		{row(255, 255, 7, 127), 1<<63 - 1, 9, api.OK},
		{row(129, 128, 8, 0), 1 << 63, 10, api.OK},
		{row(130, 128, 8, 0), 0, 0, api.ErrSdnvRange},
		{row(130, 128, 8), 0, 0, api.ErrSdnvShort},
		{row(130, 128, 9), 0, 0, api.ErrSdnvRange},
		{row(129, 255, 9), 0, 0, api.ErrSdnvShort},
		{row(129, 255, 9, 0), 0, 0, api.ErrSdnvRange},
		{row(129, 255, 9, 127), 0, 0, api.ErrSdnvRange},
		{row(129, 255, 9, 128), 0, 0, api.ErrSdnvRange},
		{row(129, 255, 9, 255), 0, 0, api.ErrSdnvRange},
		{row(129, 128, 9), 0, 0, api.ErrSdnvShort},
		{row(129, 128, 9, 0), 0, 0, api.ErrSdnvRange},
		{row(255, 255, 9), 0, 0, api.ErrSdnvRange},
		{row(255, 255, 30), 0, 0, api.ErrSdnvRange},
		{row(129, 128, 1000), 0, 0, api.ErrSdnvRange},
	} {
		if n, k, e := sdnv.Read(c.b); n != c.n || k != c.k || e != c.e {
			t.Errorf("Read(%v) = %d, %d, %d; want %d, %d, %d", c.b, n, k, e, c.n, c.k, c.e)
		}
	}
}

// P1.2: each row, held against the table gone through word by word.
func TestReadTable(t *testing.T) {
	for _, b := range rows() {
		checkRead(t, b)
	}
}

func FuzzRead(f *testing.F) {
	for _, b := range [][]byte{nil, {0}, {128}, row(129, 255, 9), row(130, 128, 8, 0)} {
		f.Add(b)
	}
	f.Fuzz(func(t *testing.T, b []byte) { checkRead(t, b) })
}

// P1.3.
func TestJoin(t *testing.T) {
	if b := sdnv.Join([]uint64{300, 0, 127}); !bytes.Equal(b, []byte{130, 44, 0, 127}) {
		t.Errorf("Join(300, 0, 127) = %v", b)
	}
	for _, l := range [][]uint64{nil, {}} {
		if b := sdnv.Join(l); len(b) != 0 {
			t.Errorf("Join of no numbers = %v", b)
		}
	}
	var want []byte
	for _, n := range numbers() {
		want = append(want, wantBytes(n)...)
	}
	if !bytes.Equal(sdnv.Join(numbers()), want) {
		t.Error("Join of many numbers is not their bytes, one behind the other")
	}
}

// P1.4: the examples; an error of the first number and of a later one, and the zero value beside it.
func TestAllExamples(t *testing.T) {
	for _, c := range []struct {
		b []byte
		l []uint64
		e api.Errno
	}{
		{nil, nil, api.OK},
		{[]byte{}, nil, api.OK},
		{[]byte{0}, []uint64{0}, api.OK},
		{[]byte{130, 44, 0, 127}, []uint64{300, 0, 127}, api.OK},
		{[]byte{128}, nil, api.ErrSdnvForm},
		{[]byte{200}, nil, api.ErrSdnvShort},
		{[]byte{5, 128}, nil, api.ErrSdnvForm},
		{[]byte{5, 200}, nil, api.ErrSdnvShort},
		{[]byte{5, 128, 200}, nil, api.ErrSdnvForm},
		{[]byte{5, 128, 5, 200}, nil, api.ErrSdnvForm},
		{append([]byte{5}, row(129, 255, 9, 0)...), nil, api.ErrSdnvRange},
		{append(row(129, 255, 9, 0), 128), nil, api.ErrSdnvRange},
		{append(row(129, 255, 8, 127), 7), []uint64{math.MaxUint64, 7}, api.OK},
	} {
		l, e := sdnv.All(c.b)
		if e != c.e || !slices.Equal(l, c.l) {
			t.Errorf("All(%v) = %v, %d; want %v, %d", c.b, l, e, c.l, c.e)
		}
	}
}

// P1.4: each row, held against what the table says of what is left.
func TestAllIsReadToTheEnd(t *testing.T) {
	for _, b := range rows() {
		var want []uint64
		wantErr := api.OK
		for rest := b; len(rest) > 0; {
			n, k, e := wantRead(rest)
			if e != api.OK {
				want, wantErr = nil, e
				break
			}
			want, rest = append(want, n), rest[k:]
		}
		if l, e := sdnv.All(b); e != wantErr || !slices.Equal(l, want) {
			t.Errorf("All(%v) = %v, %d; want %v, %d", b, l, e, want, wantErr)
		}
	}
}

// P1.5: neither what is handed in nor its spare room changes.
func TestArgumentsStay(t *testing.T) {
	for _, b := range rows() {
		room := append(slices.Clone(b), 1, 2, 3, 4, 5, 6, 7, 8)
		was := slices.Clone(room)
		sdnv.Read(room[:len(b)])
		sdnv.All(room[:len(b)])
		if !bytes.Equal(room, was) {
			t.Fatalf("%v became %v", was, room)
		}
	}
	room := append(numbers(), 1, 2, 3)
	was := slices.Clone(room)
	sdnv.Join(room[:len(room)-3])
	if !slices.Equal(room, was) {
		t.Error("Join changed its numbers, or the room behind them")
	}
}

// P1.5: what is done to an answer, spare room too, is not seen in another one.
func TestAnswersAreNew(t *testing.T) {
	for _, n := range numbers() {
		first, second := sdnv.Bytes(n), sdnv.Bytes(n)
		spoil(first[:cap(first)])
		if !bytes.Equal(second, wantBytes(n)) || !bytes.Equal(sdnv.Bytes(n), wantBytes(n)) {
			t.Fatalf("two answers of Bytes(%d) share memory", n)
		}
	}
	l := []uint64{300, 0, 127, math.MaxUint64}
	first, second := sdnv.Join(l), sdnv.Join(l)
	want := slices.Clone(second)
	spoil(first[:cap(first)])
	if !bytes.Equal(second, want) || !bytes.Equal(sdnv.Join(l), want) {
		t.Error("two answers of Join share memory")
	}
	one, _ := sdnv.All(want)
	two, _ := sdnv.All(want)
	spoil(one[:cap(one)])
	three, _ := sdnv.All(want)
	if !slices.Equal(two, l) || !slices.Equal(three, l) {
		t.Error("two answers of All share memory")
	}
}

func spoil[T byte | uint64](l []T) {
	for i := range l {
		l[i] ^= 85
	}
}

// P1.6: of one number, whatever stands behind.
func TestThereAndBack(t *testing.T) {
	for _, n := range numbers() {
		for _, behind := range [][]byte{nil, {0}, {127}, {128}, {255}, row(255, 255, 20)} {
			b := append(sdnv.Bytes(n), behind...)
			if m, k, e := sdnv.Read(b); m != n || k != sdnv.Size(n) || e != api.OK {
				t.Errorf("Read(%v) = %d, %d, %d; want %d, %d", b, m, k, e, n, sdnv.Size(n))
			}
		}
	}
}

// P1.6: of lists, of every length up to that of numbers.
func TestListsThereAndBack(t *testing.T) {
	all := numbers()
	for size := 0; size <= len(all); size = size*2 + 1 {
		for _, l := range [][]uint64{all[:size], all[len(all)-size:]} {
			if m, e := sdnv.All(sdnv.Join(l)); e != api.OK || !slices.Equal(m, l) {
				t.Errorf("All(Join) of %d numbers is another list, or error %d", size, e)
			}
		}
	}
}

// P1.7: whatever is read is what is written.
func TestOneForm(t *testing.T) {
	for _, b := range rows() {
		if n, k, e := sdnv.Read(b); e == api.OK && !bytes.Equal(sdnv.Bytes(n), b[:k]) {
			t.Errorf("Read(%v) = %d, whose bytes are %v", b, n, sdnv.Bytes(n))
		}
		if l, e := sdnv.All(b); e == api.OK && !bytes.Equal(sdnv.Join(l), b) {
			t.Errorf("All(%v) = %v, whose bytes are %v", b, l, sdnv.Join(l))
		}
	}
}

// P1.8: numbers as they rise; where a Size is shared, their bytes rise too, and where it is not, the shorter is no beginning.
func TestOrder(t *testing.T) {
	all := numbers()
	for i, n := range all {
		size, b := sdnv.Size(n), sdnv.Bytes(n)
		if size < 1 || size > 10 || size != len(b) {
			t.Errorf("Size(%d) = %d, with %d bytes", n, size, len(b))
		}
		if i == 0 {
			continue
		}
		last, before := sdnv.Size(all[i-1]), sdnv.Bytes(all[i-1])
		if size < last {
			t.Errorf("Size falls from %d to %d at %d", last, size, n)
		}
		if size == last && bytes.Compare(before, b) >= 0 {
			t.Errorf("the bytes %v of %d are not below %v of %d", before, all[i-1], b, n)
		}
	}
}

// P1.8: no two of them, held against each other pairwise.
func TestNoBeginning(t *testing.T) {
	all := numbers()
	printed := make([][]byte, len(all))
	for i, n := range all {
		printed[i] = sdnv.Bytes(n)
	}
	for i, a := range printed {
		for k, b := range printed {
			if i != k && bytes.HasPrefix(b, a) {
				t.Fatalf("the bytes %v of %d begin those of %d, %v", a, all[i], all[k], b)
			}
		}
	}
}

// P1.8: the least and the greatest of each Size.
func TestSizes(t *testing.T) {
	if sdnv.Size(0) != 1 || sdnv.Size(math.MaxUint64) != 10 {
		t.Errorf("Size(0) = %d, Size(2^64-1) = %d", sdnv.Size(0), sdnv.Size(math.MaxUint64))
	}
	for size := 1; size < 10; size++ {
		n := uint64(1) << (7 * size)
		if a, b := sdnv.Size(n-1), sdnv.Size(n); a != size || b != size+1 {
			t.Errorf("Size(%d) = %d, Size(%d) = %d", n-1, a, n, b)
		}
	}
}
