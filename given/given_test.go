// Package given holds the packages that are given against what the document says of them. Its tests stand apart, so that those packages stay as they are.
package given

import (
	"errors"
	"testing"

	"lantern/api"
	"lantern/disk"
)

// wrapped is an error around another one.
type wrapped struct{ of error }

func (w wrapped) Error() string { return "around: " + w.of.Error() }
func (w wrapped) Unwrap() error { return w.of }

func want(t *testing.T, what string, got, asked error) {
	t.Helper()
	if !errors.Is(got, asked) {
		t.Errorf("%s answers %v, not %v", what, got, asked)
	}
}

func wantFile(t *testing.T, h *disk.Hand, name, text string, safe int) {
	t.Helper()
	for _, f := range h.Files() {
		if f.Name == name {
			if string(f.Bytes) != text || f.Safe != safe {
				t.Errorf("%s is %q, safe %d; want %q, safe %d", name, f.Bytes, f.Safe, text, safe)
			}
			return
		}
	}
	t.Errorf("there is no file %s", name)
}

// filled is a disk with a file x of "abcdef", three bytes of it safe.
func filled() (*disk.Hand, *disk.Disk) {
	h := disk.New(10)
	d := h.Disk()
	d.Append("x", []byte("abc"))
	d.Sync("x")
	d.Append("x", []byte("def"))
	return h, d
}

func TestLimits(t *testing.T) {
	if api.MaxNum != 4611686018427387903 || api.MaxBlock != 65536 || api.MaxSegment != 8192 {
		t.Error("numbers, blocks, segments")
	}
	if api.MinMtu != 80 || api.MaxMtu != 4096 || api.MaxExts != 15 || api.MaxExt != 200 {
		t.Error("mtu, extensions")
	}
	if api.MaxClaims != 1000 || api.MaxSpans != 2000 || api.MaxRecord != 131072 || api.MaxTombs != 500 {
		t.Error("claims, spans, records, tombs")
	}
}

// W8: an error of a disk as a number.
func TestNumber(t *testing.T) {
	for _, c := range []struct {
		e error
		n api.Errno
	}{
		{nil, api.OK},
		{disk.ErrFull, 5},
		{disk.ErrDown, 6},
		{wrapped{disk.ErrFull}, 5},
		{wrapped{wrapped{disk.ErrDown}}, 6},
		{api.ErrSdnvForm, 11},
		{wrapped{api.ErrSdnvRange}, 12},
		{disk.ErrNone, -1},
		{errors.New("another"), -1},
	} {
		if n := disk.Number(c.e); n != c.n {
			t.Errorf("Number(%v) = %d, want %d", c.e, n, c.n)
		}
	}
}

// A loss of power leaves what is safe, and any number of the bytes behind.
func TestCrash(t *testing.T) {
	for _, c := range []struct {
		keep int
		left string
	}{{-1, "abc"}, {0, "abc"}, {2, "abcde"}, {3, "abcdef"}, {9, "abcdef"}} {
		h, _ := filled()
		wantFile(t, h, "x", "abcdef", 3)
		h.Crash(c.keep)
		wantFile(t, h, "x", c.left, len(c.left))
	}
}

// Rename, Remove and Cut are safe at once.
func TestSafeAtOnce(t *testing.T) {
	h, d := filled()
	want(t, "Cut", d.Cut("x", 4), nil)
	wantFile(t, h, "x", "abcd", 4)
	want(t, "Append", d.Append("y", []byte("q")), nil)
	want(t, "Rename", d.Rename("x", "y"), nil)
	h.Crash(0)
	wantFile(t, h, "y", "abcd", 4)
	want(t, "Remove", d.Remove("y"), nil)
	h.Crash(0)
	if n := len(h.Files()); n != 0 || d.Room() != 10 {
		t.Errorf("%d files are left, and room for %d", n, d.Room())
	}
}

// An act that finds no room or no file does nothing.
func TestRefused(t *testing.T) {
	h, d := filled()
	want(t, "Append", d.Append("x", []byte("ghijk")), disk.ErrFull)
	want(t, "Sync", d.Sync("y"), disk.ErrNone)
	want(t, "Rename", d.Rename("y", "x"), disk.ErrNone)
	want(t, "Remove", d.Remove("y"), disk.ErrNone)
	want(t, "Cut", d.Cut("y", 0), disk.ErrNone)
	_, e := d.Read("y")
	want(t, "Read", e, disk.ErrNone)
	if len(h.Files()) != 1 || d.Room() != 4 {
		t.Error("an act that was refused has done something")
	}
	wantFile(t, h, "x", "abcdef", 3)
}

// The act on which the power goes may have been done; those behind it are not.
func TestPower(t *testing.T) {
	for _, done := range []bool{false, true} {
		h, d := filled()
		h.Arm(1, done)
		want(t, "Append", d.Append("x", []byte("g")), nil)
		want(t, "Sync", d.Sync("x"), disk.ErrDown)
		want(t, "Append", d.Append("x", []byte("h")), disk.ErrDown)
		_, e := d.Read("x")
		want(t, "Read", e, disk.ErrDown)
		if !h.Down() {
			t.Error("the disk is not down")
		}
		h.Crash(0)
		if h.Down() {
			t.Error("the disk is not up again")
		}
		if done {
			wantFile(t, h, "x", "abcdefg", 7)
		} else {
			wantFile(t, h, "x", "abc", 3)
		}
	}
}

// W6: what a disk answers, and what it was handed, is not its own memory.
func TestCopies(t *testing.T) {
	h, d := filled()
	b, _ := d.Read("x")
	b[0] = 'z'
	h.Files()[0].Bytes[1] = 'z'
	mine := []byte("ghi")
	d.Append("x", mine)
	mine[0] = 'z'
	wantFile(t, h, "x", "abcdefghi", 3)
}
