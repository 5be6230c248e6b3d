package itab_test

import (
	"math"
	"slices"
	"strings"
	"testing"

	"almonry/api"
	"almonry/itab"
)

// inode gives one that may be, if the number may.
func inode(num int) api.Inode {
	return api.Inode{Num: num, Kind: num % 2, Mode: num / 2 % 2, Links: num%32 + 1, Size: (1 - num%2) * 100 * num, Root: api.Hash{byte(num), 9}}
}

// inodes gives those of the numbers from one to another.
func inodes(from int, to int) []api.Inode {
	var ns []api.Inode
	for num := from; num <= to; num++ {
		ns = append(ns, inode(num))
	}
	return ns
}

// changed is an inode that may be, with one change.
func changed(change func(n *api.Inode)) []api.Inode {
	n := api.Inode{Num: 5, Kind: api.KindFile, Mode: api.ModeRead, Links: 3, Size: 700, Root: api.Hash{1}}
	change(&n)
	return []api.Inode{n}
}

// good are tables.
func good() [][]api.Inode {
	return [][]api.Inode{
		nil, {}, inodes(1, 1), inodes(32, 32), inodes(1, 32), {inode(2), inode(7), inode(30)},
		changed(func(n *api.Inode) {}),
		changed(func(n *api.Inode) { n.Num = 1 }),
		changed(func(n *api.Inode) { n.Num = 32 }),
		changed(func(n *api.Inode) { n.Kind, n.Size = api.KindDir, 0 }),
		changed(func(n *api.Inode) { n.Mode = 0 }),
		changed(func(n *api.Inode) { n.Links = 1 }),
		changed(func(n *api.Inode) { n.Links = 32 }),
		changed(func(n *api.Inode) { n.Size = 0 }),
		changed(func(n *api.Inode) { n.Size = 4096 }),
		changed(func(n *api.Inode) { n.Root = api.Hash{} }),
	}
}

// bad are no tables.
func bad() [][]api.Inode {
	return [][]api.Inode{
		{inode(2), inode(1)}, {inode(1), inode(1)}, {inode(1), inode(3), inode(2)}, append(inodes(1, 32), inode(32)), inodes(0, 3), inodes(30, 33),
		changed(func(n *api.Inode) { n.Num = 0 }),
		changed(func(n *api.Inode) { n.Num = 33 }),
		changed(func(n *api.Inode) { n.Num = -1 }),
		changed(func(n *api.Inode) { n.Num = math.MaxInt }),
		changed(func(n *api.Inode) { n.Kind = 2 }),
		changed(func(n *api.Inode) { n.Kind, n.Size = -1, 0 }),
		changed(func(n *api.Inode) { n.Kind = api.KindDir }),
		changed(func(n *api.Inode) { n.Kind, n.Size = api.KindDir, 1 }),
		changed(func(n *api.Inode) { n.Mode = 2 }),
		changed(func(n *api.Inode) { n.Mode = -1 }),
		changed(func(n *api.Inode) { n.Links = 0 }),
		changed(func(n *api.Inode) { n.Links = 33 }),
		changed(func(n *api.Inode) { n.Links = math.MinInt }),
		changed(func(n *api.Inode) { n.Size = -1 }),
		changed(func(n *api.Inode) { n.Size = 4097 }),
		changed(func(n *api.Inode) { n.Size = math.MaxInt }),
	}
}

// wantBytes are the chapter's bytes.
func wantBytes(ns []api.Inode) string {
	s := "T" + string([]byte{byte(len(ns))})
	for _, n := range ns {
		s += string([]byte{byte(n.Num), byte(n.Kind), byte(n.Mode), byte(n.Links), byte(n.Size >> 8), byte(n.Size)}) + string(n.Root[:])
	}
	return s
}

// fitsBytes says if the bytes tell the numbers.
func fitsBytes(ns []api.Inode) bool {
	for _, n := range ns {
		if max(n.Num, n.Kind, n.Mode, n.Links) > 255 || min(n.Num, n.Kind, n.Mode, n.Links, n.Size) < 0 || n.Size > 65535 {
			return false
		}
	}
	return true
}

// P14.1: which lists are tables, their bytes, and back.
func TestTables(t *testing.T) {
	for i, ns := range good() {
		s, e := itab.Put(ns)
		if !itab.May(ns) || e != api.OK || s != wantBytes(ns) {
			t.Errorf("table %d: error %d", i, e)
		}
		back, e := itab.Get(wantBytes(ns))
		if e != api.OK || !slices.Equal(back, ns) {
			t.Errorf("table %d: Get: error %d", i, e)
		}
	}
	for i, ns := range bad() {
		if s, e := itab.Put(ns); itab.May(ns) || e != api.ErrItabForm || s != "" {
			t.Errorf("list %d: error %d", i, e)
		}
		if !fitsBytes(ns) {
			continue
		}
		if back, e := itab.Get(wantBytes(ns)); e != api.ErrItabForm || back != nil {
			t.Errorf("list %d: Get: error %d", i, e)
		}
	}
}

// P14.1: bytes that are not just a table's.
func TestWrongBytes(t *testing.T) {
	s := wantBytes(inodes(3, 5))
	for n := range len(s) {
		if got, e := itab.Get(s[:n]); got != nil || e != api.ErrItabForm {
			t.Errorf("%d bytes of %d: error %d", n, len(s), e)
		}
	}
	for _, other := range []string{s + "\x00", "t" + s[1:], "D" + s[1:], "T\x02" + s[2:], "T\x04" + s[2:], "T\x00a", " " + s, strings.Repeat("T", 70000)} {
		if got, e := itab.Get(other); got != nil || e != api.ErrItabForm {
			t.Errorf("%q: error %d", other[:3], e)
		}
	}
	if got, e := itab.Get("T\x00"); len(got) != 0 || e != api.OK {
		t.Errorf("the empty table: error %d", e)
	}
}

// R4: answers are apart from what was handed in, the spare room of which stays.
func TestListsStay(t *testing.T) {
	ns := append(make([]api.Inode, 0, 9), inodes(1, 3)...)
	itab.May(ns)
	s, _ := itab.Put(ns)
	back, _ := itab.Get(s)
	back[0] = inode(9)
	if !slices.Equal(ns, inodes(1, 3)) || ns[:9][3] != (api.Inode{}) {
		t.Error("the list that was handed in is another one then")
	}
}
