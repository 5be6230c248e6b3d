package dir_test

import (
	"fmt"
	"math"
	"slices"
	"strings"
	"testing"

	"almonry/api"
	"almonry/dir"
)

// entry gives one that may be, if the name may.
func entry(name string) api.Dirent {
	return api.Dirent{Name: name, Ref: api.Ref{Owner: 1, Num: 2}}
}

// entries gives n entries with rising names.
func entries(n int) []api.Dirent {
	var es []api.Dirent
	for i := range n {
		es = append(es, api.Dirent{Name: fmt.Sprintf("name %02d", i), Ref: api.Ref{Owner: i % 24, Num: i%32 + 1}})
	}
	return es
}

// Names that may be, rising, and names that may not.
var (
	goodNames = []string{"\x01", " ", "...", ".a", "A", "a", "a.", "aa", "b", strings.Repeat("x", 24), "\x7f", "\xff\xfe"}
	badNames  = []string{"", ".", "..", "/", "a/", "/a", "a/b", "\x00", "a\x00", "\x00a", strings.Repeat("x", 25), strings.Repeat("x", 300)}
)

// Refs that may be, and refs that may not.
var (
	goodRefs = []api.Ref{{Owner: 0, Num: 1}, {Owner: 23, Num: 32}, {Owner: 5, Num: 9}}
	badRefs  = []api.Ref{{Owner: -1, Num: 1}, {Owner: 24, Num: 1}, {Owner: 0, Num: 0}, {Owner: 0, Num: 33}, {Owner: 0, Num: -1}, {Owner: math.MaxInt, Num: 1}, {Owner: 0, Num: math.MinInt}, {Owner: 256, Num: 1}, {Owner: 0, Num: 257}}
)

// wantBytes are the chapter's bytes.
func wantBytes(es []api.Dirent) string {
	s := "D" + string([]byte{byte(len(es))})
	for _, e := range es {
		s += string([]byte{byte(len(e.Name))}) + e.Name + string([]byte{byte(e.Ref.Owner), byte(e.Ref.Num)})
	}
	return s
}

// fitsBytes says if each number of a list is a byte.
func fitsBytes(es []api.Dirent) bool {
	for _, e := range es {
		if e.Ref.Owner != int(byte(e.Ref.Owner)) || e.Ref.Num != int(byte(e.Ref.Num)) || len(e.Name) > 255 {
			return false
		}
	}
	return len(es) <= 255
}

// good are directories.
func good() [][]api.Dirent {
	all := [][]api.Dirent{nil, {}, entries(1), entries(31), entries(32)}
	var names []api.Dirent
	for _, name := range goodNames {
		all = append(all, []api.Dirent{entry(name)})
		names = append(names, entry(name))
	}
	all = append(all, names)
	for _, ref := range goodRefs {
		all = append(all, []api.Dirent{{Name: "a", Ref: ref}})
	}
	return all
}

// bad are no directories.
func bad() [][]api.Dirent {
	all := [][]api.Dirent{
		entries(33), entries(300),
		{entry("b"), entry("a")}, {entry("a"), entry("a")}, {entry("a"), entry("b"), entry("b")}, {entry("a"), entry("A")},
		{entry("\xff"), entry("a")}, {entry("aa"), entry("a")},
	}
	for _, name := range badNames {
		all = append(all, []api.Dirent{entry(name)})
	}
	for _, ref := range badRefs {
		all = append(all, []api.Dirent{entry("0"), {Name: "a", Ref: ref}})
	}
	return all
}

// P13.1: which lists are directories, their bytes, and back.
func TestDirectories(t *testing.T) {
	for i, es := range good() {
		s, e := dir.Put(es)
		if !dir.May(es) || e != api.OK || s != wantBytes(es) {
			t.Errorf("directory %d: error %d, %q", i, e, s)
		}
		back, e := dir.Get(wantBytes(es))
		if e != api.OK || !slices.Equal(back, es) {
			t.Errorf("directory %d: Get: error %d", i, e)
		}
	}
	for i, es := range bad() {
		if s, e := dir.Put(es); dir.May(es) || e != api.ErrDirForm || s != "" {
			t.Errorf("list %d: error %d", i, e)
		}
	}
}

// P13.1: bytes that are not just a directory's.
func TestWrongBytes(t *testing.T) {
	for i, es := range bad() {
		if !fitsBytes(es) {
			continue
		}
		if got, e := dir.Get(wantBytes(es)); got != nil || e != api.ErrDirForm {
			t.Errorf("list %d: error %d", i, e)
		}
	}
	s := wantBytes(entries(3))
	for n := range len(s) {
		if got, e := dir.Get(s[:n]); got != nil || e != api.ErrDirForm {
			t.Errorf("%d bytes of %d: error %d", n, len(s), e)
		}
	}
	for _, other := range []string{s + "\x00", "d" + s[1:], "T" + s[1:], "D\x02" + s[2:], "D\x04" + s[2:], "D\xff" + s[2:], "D\x00a", " " + s, strings.Repeat("D", 70000)} {
		if got, e := dir.Get(other); got != nil || e != api.ErrDirForm {
			t.Errorf("%q: error %d", other[:5], e)
		}
	}
}

// P13.2: Find tells the first entry of a name, in any list.
func TestFind(t *testing.T) {
	es := []api.Dirent{{Name: "b", Ref: api.Ref{Owner: 1, Num: 1}}, {Name: "a", Ref: api.Ref{Owner: 2, Num: 2}}, {Name: "b", Ref: api.Ref{Owner: 3, Num: 3}}, {Name: "", Ref: api.Ref{Owner: -4, Num: 4}}}
	for _, c := range []struct {
		name string
		ref  api.Ref
		ok   bool
	}{{"b", es[0].Ref, true}, {"a", es[1].Ref, true}, {"", es[3].Ref, true}, {"c", api.Ref{}, false}, {"B", api.Ref{}, false}} {
		if ref, ok := dir.Find(es, c.name); ref != c.ref || ok != c.ok {
			t.Errorf("Find of %q: %v, %v", c.name, ref, ok)
		}
	}
	if ref, ok := dir.Find(nil, "a"); ref != (api.Ref{}) || ok {
		t.Error("Find in none")
	}
	for _, e := range entries(32) {
		if ref, ok := dir.Find(entries(32), e.Name); ref != e.Ref || !ok {
			t.Errorf("Find of %q: %v, %v", e.Name, ref, ok)
		}
	}
}

// P13.2: Set puts an entry where its name stands, or stands in for an old one.
func TestSet(t *testing.T) {
	ref := api.Ref{Owner: 9, Num: 9}
	for _, name := range []string{"a", "name 01", "name 02", "name 021", "zz", "name 00"} {
		es := entries(4)
		got, e := dir.Set(es, name, ref)
		want := []api.Dirent{{Name: name, Ref: ref}}
		for _, old := range es {
			if old.Name != name {
				want = append(want, old)
			}
		}
		slices.SortFunc(want, func(a, b api.Dirent) int { return strings.Compare(a.Name, b.Name) })
		if e != api.OK || !slices.Equal(got, want) || !slices.Equal(es, entries(4)) {
			t.Errorf("Set of %q: error %d, %v", name, e, got)
		}
	}
	if got, e := dir.Set(nil, "a", ref); e != api.OK || !slices.Equal(got, []api.Dirent{{Name: "a", Ref: ref}}) {
		t.Errorf("Set in none: error %d", e)
	}
	if got, e := dir.Set(entries(31), "z", ref); e != api.OK || len(got) != 32 {
		t.Errorf("the last one: error %d", e)
	}
	if got, e := dir.Set(entries(32), "name 31", ref); e != api.OK || len(got) != 32 || got[31].Ref != ref {
		t.Errorf("an old one of a full directory: error %d", e)
	}
	if got, e := dir.Set(entries(32), "z", ref); e != api.ErrDirForm || got != nil {
		t.Errorf("one too many: error %d", e)
	}
}

// P13.2: what Set refuses.
func TestWrongSets(t *testing.T) {
	for i, es := range bad() {
		if got, e := dir.Set(es, "a", goodRefs[0]); e != api.ErrDirForm || got != nil {
			t.Errorf("list %d: error %d", i, e)
		}
	}
	for _, name := range badNames {
		if got, e := dir.Set(entries(2), name, goodRefs[0]); e != api.ErrDirForm || got != nil {
			t.Errorf("name %q: error %d", name, e)
		}
	}
	for _, ref := range badRefs {
		for _, name := range []string{"a", "name 01"} {
			if got, e := dir.Set(entries(2), name, ref); e != api.ErrDirForm || got != nil {
				t.Errorf("ref %v: error %d", ref, e)
			}
		}
	}
	for _, name := range goodNames {
		for _, ref := range goodRefs {
			if got, e := dir.Set(nil, name, ref); e != api.OK || len(got) != 1 {
				t.Errorf("%q, %v: error %d", name, ref, e)
			}
		}
	}
}

// P13.2: Remove takes one entry away, if it is there.
func TestRemove(t *testing.T) {
	es := entries(5)
	for i := range es {
		got, ok := dir.Remove(es, es[i].Name)
		want := slices.Delete(entries(5), i, i+1)
		if !ok || !slices.Equal(got, want) || !slices.Equal(es, entries(5)) {
			t.Errorf("entry %d: %v, %v", i, got, ok)
		}
	}
	if got, ok := dir.Remove(entries(1), "name 00"); !ok || len(got) != 0 {
		t.Errorf("the only one: %v", got)
	}
	for _, name := range []string{"", "a", "name", "name 05", "name 000"} {
		if got, ok := dir.Remove(es, name); ok || got != nil {
			t.Errorf("%q: %v", name, got)
		}
	}
	if got, ok := dir.Remove(nil, "a"); ok || got != nil {
		t.Error("of none")
	}
	for i, es := range bad() {
		if got, ok := dir.Remove(es, es[0].Name); ok || got != nil {
			t.Errorf("list %d: %v", i, got)
		}
	}
}

// R4: answers are apart from what was handed in, the spare room of which stays.
func TestListsStay(t *testing.T) {
	es := append(make([]api.Dirent, 0, 40), entries(3)...)
	set, _ := dir.Set(es, "name 00x", goodRefs[0])
	removed, _ := dir.Remove(es, "name 01")
	over, _ := dir.Set(es, "name 01", goodRefs[0])
	for _, answer := range [][]api.Dirent{set, removed, over} {
		for i := range answer {
			answer[i] = entry("changed")
		}
	}
	if !slices.Equal(es, entries(3)) || es[:40][3] != (api.Dirent{}) {
		t.Errorf("the list that was handed in is %v then", es[:4])
	}
}
