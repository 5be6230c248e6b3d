package disk_test

import (
	"math"
	"strings"
	"testing"

	"almonry/api"
	"almonry/disk"
)

// fill gives a sector's bytes.
func fill(b byte) string {
	return strings.Repeat(string([]byte{b}), api.Sector)
}

// newDisk gives a disk that must be.
func newDisk(t *testing.T, sectors int) *disk.Disk {
	d, e := disk.New(sectors)
	if e != api.OK || d == nil {
		t.Fatalf("New of %d: error %d", sectors, e)
	}
	return d
}

// write writes what must be written.
func write(t *testing.T, d *disk.Disk, at int, s string) {
	if e := d.Write(at, s); e != api.OK {
		t.Fatalf("Write of %d: error %d", at, e)
	}
}

// holds says if a sector holds a byte all over.
func holds(t *testing.T, d *disk.Disk, at int, b byte) {
	t.Helper()
	if got, e := d.Read(at); e != api.OK || got != fill(b) {
		t.Errorf("sector %d holds %q, not %d, error %d", at, got, b, e)
	}
}

// P7.1: how many sectors there may be, and what they hold at first.
func TestNew(t *testing.T) {
	for _, n := range []int{1, 2, 100, api.MaxSectors} {
		d := newDisk(t, n)
		if d.Sectors() != n || d.Dirty() != 0 {
			t.Errorf("%d sectors, %d unsynced", d.Sectors(), d.Dirty())
		}
		for at := range n {
			holds(t, d, at, 0)
		}
	}
	for _, n := range []int{0, -1, api.MaxSectors + 1, math.MinInt, math.MaxInt} {
		if d, e := disk.New(n); d != nil || e != api.ErrDiskForm {
			t.Errorf("New of %d: error %d", n, e)
		}
	}
}

// P7.1: what is written is read, synced or not; how many sectors are unsynced.
func TestWriteAndRead(t *testing.T) {
	d := newDisk(t, 4)
	write(t, d, 0, fill(1))
	write(t, d, 3, fill(2))
	mixed := "abc" + fill(7)[3:]
	write(t, d, 1, mixed)
	holds(t, d, 0, 1)
	holds(t, d, 2, 0)
	holds(t, d, 3, 2)
	if got, _ := d.Read(1); got != mixed || d.Dirty() != 3 {
		t.Errorf("it holds %q, %d unsynced", got, d.Dirty())
	}
	write(t, d, 0, fill(3))
	if d.Dirty() != 3 {
		t.Errorf("written twice: %d unsynced", d.Dirty())
	}
	if e := d.Sync(); e != api.OK || d.Dirty() != 0 {
		t.Errorf("Sync: error %d, %d unsynced", e, d.Dirty())
	}
	holds(t, d, 0, 3)
	write(t, d, 2, fill(0))
	if d.Dirty() != 1 {
		t.Errorf("written as it was: %d unsynced", d.Dirty())
	}
}

// P7.1: sectors that there are not, texts that are not as long.
func TestWrongSectors(t *testing.T) {
	d := newDisk(t, 3)
	for _, at := range []int{-1, 3, 64, math.MinInt, math.MaxInt} {
		if s, e := d.Read(at); s != "" || e != api.ErrDiskForm {
			t.Errorf("Read of %d: error %d", at, e)
		}
		if e := d.Write(at, fill(1)); e != api.ErrDiskForm {
			t.Errorf("Write of %d: error %d", at, e)
		}
	}
	for _, s := range []string{"", "a", fill(1)[1:], fill(1) + "a", fill(1) + fill(1)} {
		if e := d.Write(1, s); e != api.ErrDiskForm {
			t.Errorf("Write of %d bytes: error %d", len(s), e)
		}
	}
	if d.Dirty() != 0 {
		t.Errorf("%d unsynced", d.Dirty())
	}
	holds(t, d, 1, 0)
}

// P7.2: of the unsynced sectors, by their numbers, those whose bit is 1 keep what they hold.
func TestCrash(t *testing.T) {
	for keep := range 8 {
		d := newDisk(t, 9)
		write(t, d, 4, fill(9))
		write(t, d, 5, fill(8))
		d.Sync()
		write(t, d, 7, fill(1))
		write(t, d, 2, fill(2))
		write(t, d, 4, fill(3))
		write(t, d, 4, fill(4))
		if e := d.Crash(keep); e != api.OK || d.Dirty() != 0 || d.Sectors() != 9 {
			t.Errorf("keep %d: error %d, %d unsynced", keep, e, d.Dirty())
		}
		for i, s := range []struct{ at, old, held byte }{{2, 0, 2}, {4, 9, 4}, {7, 0, 1}} {
			if keep>>i&1 == 1 {
				holds(t, d, int(s.at), s.held)
			} else {
				holds(t, d, int(s.at), s.old)
			}
		}
		holds(t, d, 5, 8)
		holds(t, d, 0, 0)
		d.Crash(0)
		if keep == 7 {
			holds(t, d, 4, 4)
		}
	}
}

// P7.2: the 62nd unsynced sector is the last one that may be kept; keep may be any number.
func TestCrashOfMany(t *testing.T) {
	for _, c := range []struct {
		keep int
		kept func(i int) bool
	}{
		{0, func(i int) bool { return false }},
		{-1, func(i int) bool { return i < 62 }},
		{math.MaxInt, func(i int) bool { return i < 62 }},
		{math.MinInt, func(i int) bool { return false }},
		{1<<62 | 1<<61, func(i int) bool { return i == 61 }},
		{1 << 62, func(i int) bool { return false }},
		{1 << 40, func(i int) bool { return i == 40 }},
		{-2, func(i int) bool { return i > 0 && i < 62 }},
	} {
		d := newDisk(t, api.MaxSectors)
		for i := 99; i >= 0; i-- {
			write(t, d, 2*i+1, fill(byte(i+1)))
		}
		if e := d.Crash(c.keep); e != api.OK || d.Dirty() != 0 {
			t.Errorf("keep %d: error %d", c.keep, e)
		}
		for i := range 100 {
			if c.kept(i) {
				holds(t, d, 2*i+1, byte(i+1))
			} else {
				holds(t, d, 2*i+1, 0)
			}
		}
	}
}

// P7.2: what a crash kept is synced: the next crash does not set it back.
func TestCrashTwice(t *testing.T) {
	d := newDisk(t, 2)
	write(t, d, 0, fill(1))
	write(t, d, 1, fill(2))
	d.Crash(2)
	write(t, d, 1, fill(3))
	d.Crash(0)
	holds(t, d, 0, 0)
	holds(t, d, 1, 2)
	write(t, d, 0, fill(4))
	d.Sync()
	d.Crash(0)
	holds(t, d, 0, 4)
}

// R3: methods of a nil disk.
func TestNilDisk(t *testing.T) {
	var d *disk.Disk
	if s, e := d.Read(0); s != "" || e != api.ErrNil {
		t.Errorf("Read: error %d", e)
	}
	if d.Write(0, fill(1)) != api.ErrNil || d.Sync() != api.ErrNil || d.Crash(1) != api.ErrNil || d.Dirty() != 0 || d.Sectors() != 0 {
		t.Error("a nil disk")
	}
}
