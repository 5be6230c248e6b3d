package journal_test

import (
	"crypto/sha256"
	"encoding/binary"
	"math"
	"math/rand"
	"slices"
	"strings"
	"testing"

	"almonry/api"
	"almonry/disk"
	"almonry/journal"
)

func u32(x int) string { return string(binary.BigEndian.AppendUint32(nil, uint32(x))) }

// sealOf is the chapter's seal, written out.
func sealOf(prev api.Hash, seq int, r api.Record) api.Hash {
	return sha256.Sum256([]byte("\x04" + u32(32) + string(prev[:]) + u32(4) + u32(seq) + u32(1) + string([]byte{byte(r.Kind)}) + u32(len(r.Data)) + r.Data))
}

// wantBytes are the chapter's bytes of a record.
func wantBytes(prev api.Hash, seq int, r api.Record) string {
	seal := sealOf(prev, seq, r)
	s := "AJ" + u32(seq) + string([]byte{byte(r.Kind), byte(len(r.Data) >> 8), byte(len(r.Data))}) + r.Data + string(seal[:])
	for len(s)%64 != 0 {
		s += "\x00"
	}
	return s
}

// newDisk gives a disk that must be.
func newDisk(t *testing.T, sectors int) *disk.Disk {
	d, e := disk.New(sectors)
	if e != api.OK {
		t.Fatalf("error %d", e)
	}
	return d
}

// open opens what must be opened, and looks that the journal tells as many sectors as the records fill.
func open(t *testing.T, d *disk.Disk) (*journal.Journal, []api.Record) {
	t.Helper()
	j, rs, e := journal.Open(d)
	if e != api.OK || j == nil {
		t.Fatalf("Open: error %d", e)
	}
	used := 0
	for _, r := range rs {
		used += (9 + len(r.Data) + 32 + 63) / 64
	}
	if j.Used() != used || d.Dirty() != 0 {
		t.Fatalf("%d sectors used, not %d; %d unsynced", j.Used(), used, d.Dirty())
	}
	return j, rs
}

// add appends what must be appended.
func add(t *testing.T, j *journal.Journal, rs ...api.Record) {
	t.Helper()
	for _, r := range rs {
		if e := j.Append(r); e != api.OK {
			t.Fatalf("Append: error %d", e)
		}
	}
}

// all tells what a disk holds.
func all(d *disk.Disk) string {
	var s strings.Builder
	for at := range d.Sectors() {
		sector, _ := d.Read(at)
		s.WriteString(sector)
	}
	return s.String()
}

// lay writes bytes on a disk from some sector on, and syncs them.
func lay(t *testing.T, d *disk.Disk, at int, s string) {
	t.Helper()
	for ; s != ""; s, at = s[64:], at+1 {
		if e := d.Write(at, s[:64]); e != api.OK {
			t.Fatalf("error %d", e)
		}
	}
	d.Sync()
}

// rows of bytes for several records, one behind the other.
func rowOf(rs []api.Record) string {
	var prev api.Hash
	s := ""
	for i, r := range rs {
		s += wantBytes(prev, i, r)
		prev = sealOf(prev, i, r)
	}
	return s
}

var some = []api.Record{
	{Kind: 0, Data: "abc"}, {Kind: 1, Data: ""}, {Kind: 255, Data: strings.Repeat("x", 100)},
	{Kind: 7, Data: strings.Repeat("\x00", 23)}, {Kind: 2, Data: strings.Repeat("y", 24)}, {Kind: 3, Data: strings.Repeat("z", 1024)},
}

// P8.1: the bytes of records, and what has none.
func TestSeal(t *testing.T) {
	prev := api.Hash{1, 2, 3}
	for i, r := range some {
		for _, seq := range []int{0, i, 0x01020304, 1<<32 - 1} {
			if got, e := journal.Seal(prev, seq, r); e != api.OK || got != wantBytes(prev, seq, r) {
				t.Errorf("record %d, number %d: error %d", i, seq, e)
			}
		}
	}
	for i, c := range []struct {
		seq int
		r   api.Record
	}{
		{-1, api.Record{}}, {1 << 32, api.Record{}}, {math.MinInt, api.Record{}}, {math.MaxInt, api.Record{}},
		{0, api.Record{Kind: -1}}, {0, api.Record{Kind: 256}}, {0, api.Record{Kind: math.MinInt}},
		{0, api.Record{Data: strings.Repeat("a", 1025)}}, {0, api.Record{Data: strings.Repeat("a", 70000)}},
	} {
		if got, e := journal.Seal(prev, c.seq, c.r); e != api.ErrJournalForm || got != "" {
			t.Errorf("case %d: error %d", i, e)
		}
	}
}

// P8.2: what is appended stands on the disk as Seal tells it, and is told again.
func TestAppendAndOpen(t *testing.T) {
	d := newDisk(t, 64)
	j, rs := open(t, d)
	if len(rs) != 0 || j.Used() != 0 {
		t.Fatalf("%d records on an empty disk", len(rs))
	}
	for i, r := range some {
		add(t, j, r)
		if want := rowOf(some[:i+1]); !strings.HasPrefix(all(d), want) || j.Used() != len(want)/64 {
			t.Errorf("record %d: %d sectors", i, j.Used())
		}
	}
	if d.Dirty() != j.Used() {
		t.Errorf("%d of %d sectors unsynced", d.Dirty(), j.Used())
	}
	if e := j.Sync(); e != api.OK || d.Dirty() != 0 {
		t.Errorf("Sync: error %d", e)
	}
	k, rs := open(t, d)
	if !slices.Equal(rs, some) {
		t.Errorf("%d records", len(rs))
	}
	more := api.Record{Kind: 9, Data: "more"}
	add(t, k, more)
	if _, rs = open(t, d); !slices.Equal(rs, append(slices.Clone(some), more)) {
		t.Errorf("%d records then", len(rs))
	}
}

// P8.2: records that do not fit, or may not be, change nothing.
func TestWrongAppends(t *testing.T) {
	d := newDisk(t, 3)
	j, _ := open(t, d)
	add(t, j, api.Record{Data: "a"})
	before := all(d)
	for _, r := range []api.Record{{Kind: 256}, {Kind: -1}, {Data: strings.Repeat("a", 1025)}} {
		if e := j.Append(r); e != api.ErrJournalForm {
			t.Errorf("Append: error %d", e)
		}
	}
	if e := j.Append(api.Record{Data: strings.Repeat("a", 88)}); e != api.ErrJournalFull {
		t.Errorf("three sectors: error %d", e)
	}
	if all(d) != before || j.Used() != 1 {
		t.Errorf("%d sectors used", j.Used())
	}
	add(t, j, api.Record{Data: strings.Repeat("a", 87)})
	if e := j.Append(api.Record{}); e != api.ErrJournalFull || j.Used() != 3 {
		t.Errorf("full: error %d, %d sectors", e, j.Used())
	}
	if e := j.Append(api.Record{Kind: 300}); e != api.ErrJournalForm {
		t.Errorf("both errors: error %d", e)
	}
	if _, rs := open(t, d); len(rs) != 2 {
		t.Errorf("%d records", len(rs))
	}
}

// P8.2: where no such record stands, the records end.
func TestWhereRecordsEnd(t *testing.T) {
	row := rowOf(some)
	firsts := len(rowOf(some[:2]))
	cases := []struct {
		what  string
		bytes string
		n     int
	}{
		{"all of them", row, len(some)},
		{"none", "", 0},
		{"another magic", "AK" + row[2:], 0},
		{"another number", "AJ\x00\x00\x00\x01" + row[6:], 0},
		{"another first seal", wantBytes(api.Hash{1}, 0, some[0]), 0},
		{"the second one's number", row[:firsts-64] + wantBytes(sealOf(api.Hash{}, 0, some[0]), 2, some[1]), 1},
		{"the second one's seal ahead", row[:firsts-64] + wantBytes(api.Hash{}, 1, some[1]), 1},
		{"a kind", row[:firsts+6] + "\x01" + row[firsts+7:], 2},
		{"a length", row[:firsts+8] + "\x65" + row[firsts+9:], 2},
		{"a length that is too great", row[:firsts+7] + "\xff" + row[firsts+8:], 2},
		{"a byte of Data", row[:firsts+50] + "\x01" + row[firsts+51:], 2},
		{"a byte of the seal", row[:firsts+110] + "\x01" + row[firsts+111:], 2},
		{"a byte behind the seal", row[:firsts+3*64-1] + "\x01" + row[firsts+3*64:], 2},
		{"a sector wanting", row[:firsts+64], 2},
		{"a row begun again", row[:firsts] + row[:firsts], 2},
		{"the last byte's sector wanting", row[:len(row)-64], len(some) - 1},
	}
	for _, c := range cases {
		d := newDisk(t, 64)
		lay(t, d, 0, c.bytes)
		_, rs := open(t, d)
		if !slices.Equal(rs, some[:c.n]) {
			t.Errorf("%s: %d records, not %d", c.what, len(rs), c.n)
		}
		want := rowOf(some[:c.n])
		if all(d) != want+strings.Repeat("\x00", 64*64-len(want)) {
			t.Errorf("%s: what is behind the records is not wiped", c.what)
		}
	}
}

// P8.2: a record that the disk's end cuts is none; one that just ends there is one.
func TestEndOfDisk(t *testing.T) {
	row := rowOf(some)
	d := newDisk(t, len(row)/64)
	lay(t, d, 0, row)
	if _, rs := open(t, d); !slices.Equal(rs, some) {
		t.Errorf("%d records", len(rs))
	}
	d = newDisk(t, len(row)/64-1)
	lay(t, d, 0, row[:len(row)-64])
	if _, rs := open(t, d); !slices.Equal(rs, some[:len(some)-1]) {
		t.Errorf("cut: %d records", len(rs))
	}
}

// P8.2: what Open wipes is synced, so that a crash does not bring it back; a record behind a gap stays away.
func TestOldRecordsStayAway(t *testing.T) {
	one := []api.Record{{Data: "one"}, {Data: "two"}, {Data: "three"}}
	row := rowOf(one)
	d := newDisk(t, 8)
	lay(t, d, 0, row)
	lay(t, d, 1, strings.Repeat("\x00", 64))
	j, rs := open(t, d)
	if len(rs) != 1 {
		t.Fatalf("%d records", len(rs))
	}
	d.Crash(0)
	add(t, j, one[1])
	j.Sync()
	if _, rs = open(t, d); len(rs) != 2 {
		t.Errorf("%d records: an old one came up again", len(rs))
	}
	if d.Write(5, strings.Repeat("q", 64)); d.Dirty() != 1 {
		t.Fatalf("%d unsynced", d.Dirty())
	}
	open(t, d)
	d.Crash(0)
	if s, _ := d.Read(5); s != strings.Repeat("\x00", 64) {
		t.Error("what was wiped is there again")
	}
}

// P8.3: behind any crash a beginning of what was appended is told, with all that was synced.
func TestCrashes(t *testing.T) {
	r := rand.New(rand.NewSource(8))
	for round := range 300 {
		d := newDisk(t, 40)
		j, _ := open(t, d)
		var written []api.Record
		synced := 0
		for range r.Intn(60) {
			switch r.Intn(8) {
			case 0:
				if e := j.Sync(); e != api.OK {
					t.Fatalf("error %d", e)
				}
				synced = len(written)
			case 1:
				d.Crash(r.Int())
				var rs []api.Record
				j, rs = open(t, d)
				if len(rs) < synced || len(rs) > len(written) || !slices.Equal(rs, written[:len(rs)]) {
					t.Fatalf("round %d: %d records, %d synced, %d written", round, len(rs), synced, len(written))
				}
				written, synced = rs, len(rs)
			default:
				x := api.Record{Kind: r.Intn(3), Data: strings.Repeat(string(rune('a'+r.Intn(2))), r.Intn(200))}
				if e := j.Append(x); e == api.OK {
					written = append(written, x)
				} else if e != api.ErrJournalFull {
					t.Fatalf("error %d", e)
				}
			}
		}
	}
}

// R4: what Open tells is not what the journal goes on with.
func TestAnswersAreApart(t *testing.T) {
	d := newDisk(t, 8)
	lay(t, d, 0, rowOf(some[:2]))
	j, rs := open(t, d)
	rs[0], rs[1] = api.Record{Kind: 9}, api.Record{Kind: 9}
	add(t, j, some[2])
	if _, again := open(t, d); !slices.Equal(again, some[:3]) {
		t.Errorf("%d records", len(again))
	}
}

// R3: nil disks and nil journals.
func TestNil(t *testing.T) {
	if j, rs, e := journal.Open(nil); j != nil || rs != nil || e != api.ErrNil {
		t.Errorf("Open: error %d", e)
	}
	var j *journal.Journal
	if j.Append(api.Record{}) != api.ErrNil || j.Sync() != api.ErrNil || j.Used() != 0 {
		t.Error("a nil journal")
	}
}
