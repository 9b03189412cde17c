package record_test

import (
	"bytes"
	"encoding/binary"
	"hash/crc32"
	"math/rand"
	"slices"
	"testing"

	"lantern/api"
	"lantern/record"
)

// slowSum is the sum by the chapter's words, a bit at a time.
func slowSum(b []byte) uint32 {
	var bits [32]bool // the lowest first
	for i := range bits {
		bits[i] = true
	}
	for _, c := range b {
		for i := range 8 {
			bits[i] = bits[i] != (c>>i&1 == 1)
		}
		for range 8 {
			fell := bits[0]
			copy(bits[:], bits[1:])
			bits[31] = false
			for i := range bits {
				bits[i] = bits[i] != (fell && uint32(0xEDB88320)>>i&1 == 1)
			}
		}
	}
	var n uint32
	for i, one := range bits {
		if !one {
			n |= 1 << i
		}
	}
	return n
}

func TestP65Examples(t *testing.T) {
	for text, want := range map[string]uint32{"123456789": 0xCBF43926, "": 0, "a": 0xE8B7BE43, "\x00": 0xD202EF8D, "\xff\xff\xff\xff": 0xFFFFFFFF, "The quick brown fox jumps over the lazy dog": 0x414FA339} {
		if n := record.Sum([]byte(text)); n != want {
			t.Errorf("Sum of %q: %x, not %x", text, n, want)
		}
	}
	if n := record.Sum(nil); n != 0 {
		t.Errorf("Sum of none: %x", n)
	}
}

func TestP65Sums(t *testing.T) {
	for c := range 256 {
		for n := range 9 {
			b := bytes.Repeat([]byte{byte(c)}, n)
			fatalIf(t, record.Sum(b) != slowSum(b), "Sum of %v: %x, not %x", b, record.Sum(b), slowSum(b))
		}
	}
	b := some(1 << 20)
	for _, n := range []int{200, 255, 256, 257, 1000, 4096, 65535, 65536, 65537, long, long + 1, 1 << 20} {
		fatalIf(t, record.Sum(b[:n]) != crc32.ChecksumIEEE(b[:n]), "Sum of %d bytes: %x", n, record.Sum(b[:n]))
	}
	r := rand.New(rand.NewSource(1))
	for range 3000 {
		b := make([]byte, r.Intn(300))
		r.Read(b)
		fatalIf(t, record.Sum(b) != crc32.ChecksumIEEE(b), "Sum of %v: %x", short(b), record.Sum(b))
	}
}

func checkFrame(t *testing.T, l []api.Record) []byte {
	t.Helper()
	b, e := record.Frame(l)
	fatalIf(t, e != api.OK || !bytes.Equal(b, modelFrames(l)), "Frame of %d records: %v %d, not %v", len(l), short(b), e, short(modelFrames(l)))
	return b
}

// checkScan holds Scan against the chapter, whatever the bytes are, and tells how many of them it took.
func checkScan(t *testing.T, b []byte) int {
	t.Helper()
	want, size := modelScan(b)
	checkScanned(t, b, want, size)
	return size
}

// checkScanned holds Scan against what it is to tell.
func checkScanned(t *testing.T, b []byte, want []api.Record, size int) {
	t.Helper()
	l, n := record.Scan(b)
	fatalIf(t, n != size || !sameAll(l, want), "Scan of %v: %d records, %d; not %d, %d", short(b), len(l), n, len(want), size)
}

func TestP63Examples(t *testing.T) {
	one := api.Record{Kind: api.RecNext, Size: 300}
	b, e := record.Frame([]api.Record{one})
	want := binary.BigEndian.AppendUint32([]byte{0, 0, 0, 3}, crc32.ChecksumIEEE([]byte{2, 130, 44}))
	want = append(want, 2, 130, 44)
	fatalIf(t, e != api.OK || !bytes.Equal(b, want), "Frame: %v %d, not %v", b, e, want)
	checkScanned(t, slices.Concat(b, b, b[:10]), []api.Record{one, one}, 22)
	for _, l := range [][]api.Record{nil, {}} {
		b, e := record.Frame(l)
		fatalIf(t, e != api.OK || len(b) != 0, "Frame of none: %v %d", b, e)
	}
	for _, b := range [][]byte{nil, {}, {0}, make([]byte, 7), make([]byte, 8), make([]byte, 100)} {
		checkScanned(t, b, nil, 0)
	}
}

func TestP63Frames(t *testing.T) {
	for _, r := range good() {
		b := checkFrame(t, []api.Record{r})
		checkScanned(t, b, []api.Record{r}, len(b))
		b = checkFrame(t, []api.Record{r, plain(2), r})
		checkScanned(t, b, []api.Record{r, plain(2), r}, len(b))
	}
	b := checkFrame(t, good())
	checkScanned(t, b, good(), len(b))
}

// Lengths of one, two and three bytes.
func TestP63Lengths(t *testing.T) {
	for _, n := range []int{1, 100, 116, 117, 118, 240, 241, 242, 243, 244, 245, 246, 247, 248, 249, 300, 65279, 65280, 65520, 65530, 65536} {
		r := api.Record{Kind: 6, Session: api.Session{Origin: 1, Number: 1}, Data: some(n)}
		b := checkFrame(t, []api.Record{r, r})
		checkScanned(t, b, []api.Record{r, r}, len(b))
	}
}

func TestP63Many(t *testing.T) {
	var l []api.Record
	for i := range 70000 {
		l = append(l, api.Record{Kind: 2, Size: 1 + i})
	}
	b := checkFrame(t, l)
	checkScanned(t, b, l, len(b))
}

// One record that may not be, wherever it stands: there are no frames at all.
func TestP63Errors(t *testing.T) {
	wrong := []api.Record{{}, {Kind: 99}, {Kind: 13}, {Kind: -1}, {Kind: 2}, {Kind: 4, How: 7}, {Kind: 3, Data: some(long + 1)}, {Kind: 11, Size: 1, Spans: comb(1, most+1)}}
	for n := range 5 {
		for i := range n {
			for _, w := range wrong {
				l := slices.Repeat([]api.Record{plain(6)}, n)
				l[i] = w
				b, e := record.Frame(l)
				fatalIf(t, e != api.ErrRecordKind || b != nil, "Frame with %v at %d of %d: %v %d", brief(w), i, n, short(b), e)
			}
		}
	}
}

// kit is a row of records of all kinds, with few bytes each.
func kit() (l []api.Record) {
	for kind := 1; kind <= kinds; kind++ {
		l = append(l, plain(kind))
	}
	return append(l, api.Record{Kind: 2, Size: 300}, api.Record{Kind: 2, Size: top})
}

// ends are the places at which the frames of records end.
func ends(l []api.Record) []int {
	e := []int{0}
	for i := range l {
		e = append(e, len(modelFrames(l[:i+1])))
	}
	return e
}

// P6.7: a beginning of frames has those that stand whole in it.
func TestP67CutAtEveryPlace(t *testing.T) {
	l := kit()
	b := checkFrame(t, l)
	at := ends(l)
	for n := range len(b) + 1 {
		k := 0
		for k < len(l) && at[k+1] <= n {
			k++
		}
		checkScanned(t, b[:n], l[:k], at[k]) // whatever stands in the spare room
		checkScanned(t, slices.Clone(b[:n]), l[:k], at[k])
		// And whatever is there instead of what was cut off, if it is no frame.
		checkScan(t, append(slices.Clone(b[:n]), 0))
		checkScan(t, append(slices.Clone(b[:n]), make([]byte, 30)...))
		checkScan(t, append(slices.Clone(b[:n]), bytes.Repeat([]byte{255}, 30)...))
	}
}

func TestP67CutGreatRecords(t *testing.T) {
	l := great()
	b := checkFrame(t, l)
	at := ends(l)
	for k := range l {
		for _, n := range []int{at[k], at[k] + 1, at[k] + 7, at[k] + 8, at[k] + 9, at[k+1] - 1} {
			checkScanned(t, b[:n], l[:k], at[k])
		}
	}
	checkScanned(t, b, l, len(b))
}

// P6.8: a byte of a sum or of a record that is turned to any other.
func TestP68TurnedBytes(t *testing.T) {
	l := kit()
	b := checkFrame(t, l)
	at := ends(l)
	for k := range l {
		for i := at[k] + 4; i < at[k+1]; i++ {
			was := b[i]
			for c := range 256 {
				if b[i] = byte(c); b[i] != was {
					checkScanned(t, b, l[:k], at[k])
				}
			}
			b[i] = was
		}
	}
	checkScanned(t, b, l, len(b))
}

func TestP68TurnedBytesOfGreatRecords(t *testing.T) {
	for _, r := range great() {
		l := []api.Record{plain(1), r, plain(2)}
		b := checkFrame(t, l)
		at := ends(l)
		wide := at[2] - at[1]
		for i := at[1] + 4; i < at[2]; i += 1 + wide/40 {
			b[i] ^= 1 << (i % 8)
			checkScanned(t, b, l[:1], at[1])
			b[i] ^= 1 << (i % 8)
		}
	}
}

// A byte of a length that is turned: what stands there then is no frame, or the model says so.
func TestP64TurnedLengths(t *testing.T) {
	l := kit()
	b := checkFrame(t, l)
	for _, at := range ends(l)[:len(l)] {
		for i := at; i < at+4; i++ {
			was := b[i]
			for c := range 256 {
				b[i] = byte(c)
				checkScan(t, b)
			}
			b[i] = was
		}
	}
}

// Sums that are right, over bytes that are no record.
func TestP64RightSumsOverNoRecord(t *testing.T) {
	ahead, behind := modelFrames(kit()[:3]), modelFrames(kit()[3:5])
	check := func(b []byte) {
		t.Helper()
		if _, ok := modelRead(b); !ok {
			checkScanned(t, slices.Concat(ahead, framed(b), behind), kit()[:3], len(ahead))
			checkScanned(t, framed(b), nil, 0)
		}
	}
	for _, b := range [][]byte{nil, {0}, {1}, {2}, {13}, {255}, {2, 0}, {2, 130}, {2, 128, 44}, {2, 130, 44, 0}, {4, 7, 1, 7}, {8, 7, 1, 6}, {11, 9, 0}, {11, 9, 2, 1, 2, 3, 1}, {11, 9, 1, 0, 1}, {5, 0, 1}, {5, 1, 0}} {
		_, ok := modelRead(b)
		fatalIf(t, ok, "%v is a record", b)
		check(b)
	}
	for _, r := range few() {
		b := modelBytes(r)
		check(b[:len(b)-1])
		check(append(slices.Clone(b), 0))
		check(append(slices.Clone(b), b...))
		check(append([]byte{128}, b...))
		for i := 1; i < len(b); i++ {
			check(slices.Insert(slices.Clone(b), i, 128))
		}
	}
	for _, n := range []int{whole, whole + 9, long - 1, long, long + 1, long + 2, 2 * long, 1 << 20} {
		check(make([]byte, n))
		check(slices.Concat([]byte{6, 1, 1, 0, 0, 0, 0}, digits(uint64(n)), some(n)))
	}
}

// Lengths that no record has, or more than there is.
func TestP64Lengths(t *testing.T) {
	body := modelBytes(plain(6))
	for _, n := range []uint32{0, 1, uint32(len(body) - 1), uint32(len(body) + 1), 127, 128, 255, 256, 65535, 65536, long - 1, long, long + 1, 1 << 24, 1<<31 - 1, 1 << 31, 1<<32 - 8, 1<<32 - 1, 1<<32 - 1 - 8} {
		for _, sum := range []uint32{0, crc32.ChecksumIEEE(body), 1<<32 - 1} {
			b := binary.BigEndian.AppendUint32(nil, n)
			b = binary.BigEndian.AppendUint32(b, sum)
			b = append(b, body...)
			checkScanned(t, b, nil, 0)
			one := modelFrames([]api.Record{plain(7)})
			checkScanned(t, append(slices.Clone(one), b...), []api.Record{plain(7)}, len(one))
			checkScan(t, append(slices.Clone(b), make([]byte, long+2)...))
		}
	}
}

// The sum stands with its highest byte first, and behind the length.
func TestP64OtherHeads(t *testing.T) {
	f := modelFrames([]api.Record{{Kind: 2, Size: 300}})
	turned := slices.Clone(f)
	slices.Reverse(turned[4:8])
	swapped := slices.Concat(f[4:8], f[:4], f[8:])
	backward := slices.Clone(f)
	slices.Reverse(backward[:4])
	for _, b := range [][]byte{turned, swapped, backward, f[1:], append([]byte{0}, f...), f[8:]} {
		checkScanned(t, b, nil, 0)
	}
}

// P6.9: what was taken is taken again, whatever frames stand behind it.
func TestP69Again(t *testing.T) {
	r := rand.New(rand.NewSource(9))
	all := append(few(), great()[2], great()[11])
	row := func() (l []api.Record) {
		for range r.Intn(6) {
			l = append(l, all[r.Intn(len(all))])
		}
		return l
	}
	for range 400 {
		first, next := row(), row()
		b := modelFrames(first)
		if len(b) > 0 {
			b = b[:len(b)-r.Intn(2)]
			b[r.Intn(len(b))] ^= byte(r.Intn(2))
		}
		b = append(b, some(r.Intn(20))...)
		l, n := record.Scan(b)
		fatalIf(t, n != checkScan(t, b), "Scan twice")
		checkScanned(t, b[:n], l, n)
		more := append(slices.Clone(b[:n]), modelFrames(next)...)
		checkScanned(t, more, append(slices.Clone(l), next...), len(more))
		told, _ := record.Scan(more)
		fatalIf(t, !sameAll(told[:len(l)], l), "Scan with frames behind tells others first")
	}
}

// Any bytes, and rows of frames that were shaken.
func TestP64AnyBytes(t *testing.T) {
	r := rand.New(rand.NewSource(64))
	for range 20000 {
		b := make([]byte, r.Intn(40))
		r.Read(b)
		if len(b) > 4 {
			copy(b, []byte{0, 0, 0, byte(r.Intn(4))})
		}
		checkScan(t, b)
	}
	whole := modelFrames(kit())
	for range 5000 {
		b := slices.Clone(whole)
		from := r.Intn(len(b))
		checkScan(t, slices.Delete(b, from, min(len(b), from+1+r.Intn(12))))
		b = slices.Clone(whole)
		checkScan(t, slices.Insert(b, r.Intn(len(b)), some(1+r.Intn(12))...))
	}
}

// FuzzScan looks for bytes of which Scan tells something else than the chapter; these are tried as they are, and as the record of a frame whose sum is right.
func FuzzScan(f *testing.F) {
	f.Add(modelFrames(kit()))
	for _, x := range forms() {
		f.Add(x.b)
		f.Add(framed(x.b))
	}
	f.Fuzz(func(t *testing.T, b []byte) {
		checkScan(t, b)
		n := checkScan(t, append(framed(b), b...))
		_, ok := modelRead(b)
		fatalIf(t, ok != (n > 0), "Scan of a frame of %v takes %d bytes", short(b), n)
		l, n := record.Scan(b)
		again, e := record.Frame(l)
		fatalIf(t, e != api.OK || !bytes.Equal(again, b[:n]), "Frame of what Scan told of %v: %v %d", short(b), short(again), e)
	})
}
