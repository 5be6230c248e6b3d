package ftree_test

import (
	"crypto/sha256"
	"encoding/binary"
	"math"
	"slices"
	"strings"
	"testing"

	"almonry/api"
	"almonry/ftree"
)

// hashOf is layer 11's hash, written out.
func hashOf(data string) api.Hash {
	return sha256.Sum256([]byte("\x00" + string(binary.BigEndian.AppendUint32(nil, uint32(len(data)))) + data))
}

// pattern gives n bytes, all blocks of which are unlike.
func pattern(n int) string {
	b := make([]byte, n)
	for i := range b {
		b[i] = byte(i%64 + 5*(i/64))
	}
	return string(b)
}

// named is an object that names others.
func named(mark string, below []string) string {
	s := mark + string([]byte{byte(len(below))})
	for _, o := range below {
		h := hashOf(o)
		s += string(h[:])
	}
	return s
}

// tree is the chapter's tree of a file: its rows.
type tree struct {
	root   string
	fans   []string
	blocks []string
}

// treeOf makes it.
func treeOf(data string) tree {
	var t tree
	for at := 0; at < len(data); at += 64 {
		t.blocks = append(t.blocks, "B"+data[at:min(at+64, len(data))])
	}
	for at := 0; at < len(t.blocks); at += 8 {
		t.fans = append(t.fans, named("I", t.blocks[at:min(at+8, len(t.blocks))]))
	}
	t.root = named("R", t.fans)
	return t
}

// objects are all of a tree's, each once.
func (t tree) objects() []string {
	var all []string
	for _, o := range append(append(slices.Clone(t.blocks), t.fans...), t.root) {
		if !slices.Contains(all, o) {
			all = append(all, o)
		}
	}
	return all
}

// hashesOf are the hashes of objects.
func hashesOf(objects ...string) []api.Hash {
	var all []api.Hash
	for _, o := range objects {
		all = append(all, hashOf(o))
	}
	return all
}

var lengths = []int{0, 1, 63, 64, 65, 128, 511, 512, 513, 576, 577, 1000, 1024, 3584, 4032, 4033, 4095, 4096}

// P12.1: the objects of files of many lengths, and their root.
func TestBuild(t *testing.T) {
	for _, n := range lengths {
		for _, data := range []string{pattern(n), strings.Repeat("a", n)} {
			root, objects, e := ftree.Build(data)
			want := treeOf(data)
			if e != api.OK || root != hashOf(want.root) || !slices.Equal(objects, want.objects()) {
				t.Errorf("%d bytes: error %d, %d objects", n, e, len(objects))
			}
		}
	}
	if _, objects, _ := ftree.Build(""); !slices.Equal(objects, []string{"R\x00"}) {
		t.Errorf("of no bytes: %q", objects)
	}
	for _, n := range []int{4097, 70000} {
		if root, objects, e := ftree.Build(strings.Repeat("a", n)); root != (api.Hash{}) || objects != nil || e != api.ErrFtreeForm {
			t.Errorf("%d bytes: error %d", n, e)
		}
	}
}

// P12.2, P12.3: there and back, in whatever row the objects come, with others among them.
func TestThereAndBack(t *testing.T) {
	for _, n := range lengths {
		for _, data := range []string{pattern(n), strings.Repeat("\x00", n)} {
			root, objects, _ := ftree.Build(data)
			objects = append(objects, "other", "", strings.Repeat("x", api.MaxText+1), objects[0])
			for range 2 {
				got, want, e := ftree.Load(root, n, objects)
				if e != api.OK || got != data || want != nil {
					t.Errorf("%d bytes: %d, error %d", n, len(got), e)
				}
				slices.Reverse(objects)
			}
		}
	}
}

// loadWants looks that Load tells these hashes as wanting.
func loadWants(t *testing.T, what string, root api.Hash, size int, objects []string, want []api.Hash) {
	t.Helper()
	got, wants, e := ftree.Load(root, size, objects)
	if got != "" || e != api.ErrFtreeNone || !slices.Equal(wants, want) {
		t.Errorf("%s: error %d, %d wanting, not %d", what, e, len(wants), len(want))
	}
}

// P12.2: the first row that is not whole tells what is wanting, each once, in the row.
func TestWanting(t *testing.T) {
	for _, n := range []int{1, 64, 600, 4096} {
		tr := treeOf(pattern(n))
		root := hashOf(tr.root)
		loadWants(t, "nothing there", root, n, nil, hashesOf(tr.root))
		loadWants(t, "all but the root", root, n, append(slices.Clone(tr.blocks), tr.fans...), hashesOf(tr.root))
		loadWants(t, "the root alone", root, n, []string{tr.root}, hashesOf(tr.fans...))
		loadWants(t, "the root and blocks", root, n, append(slices.Clone(tr.blocks), tr.root), hashesOf(tr.fans...))
		loadWants(t, "all but the blocks", root, n, append(slices.Clone(tr.fans), tr.root), hashesOf(tr.blocks...))
		loadWants(t, "all but the first block", root, n, tr.objects()[1:], hashesOf(tr.blocks[0]))
	}
	tr := treeOf(pattern(2000))
	loadWants(t, "two fans", hashOf(tr.root), 2000, []string{tr.root, tr.fans[1], tr.fans[3]}, hashesOf(tr.fans[0], tr.fans[2]))
	some := append(slices.Clone(tr.fans), tr.root, tr.blocks[0], tr.blocks[5], tr.blocks[9])
	var left []string
	for i, b := range tr.blocks {
		if i != 0 && i != 5 && i != 9 {
			left = append(left, b)
		}
	}
	loadWants(t, "some blocks", hashOf(tr.root), 2000, some, hashesOf(left...))
	alike := treeOf(strings.Repeat("a", 4096))
	loadWants(t, "fans that are alike", hashOf(alike.root), 4096, []string{alike.root}, hashesOf(alike.fans[0]))
	loadWants(t, "blocks that are alike", hashOf(alike.root), 4096, []string{alike.root, alike.fans[0]}, hashesOf(alike.blocks[0]))
}

// loadRefuses looks that Load tells ErrFtreeForm.
func loadRefuses(t *testing.T, what string, root string, size int, objects ...string) {
	t.Helper()
	got, wants, e := ftree.Load(hashOf(root), size, append(objects, root))
	if got != "" || wants != nil || e != api.ErrFtreeForm {
		t.Errorf("%s: error %d, %d wanting", what, e, len(wants))
	}
}

// P12.2: sizes that are none, and sizes that are not the file's.
func TestWrongSizes(t *testing.T) {
	for _, size := range []int{-1, 4097, math.MinInt, math.MaxInt} {
		loadRefuses(t, "no size", "R\x00", size)
	}
	tr := treeOf(pattern(600))
	for _, size := range []int{0, 1, 64, 512, 576, 599, 601, 640, 641, 1024, 1025, 4096} {
		loadRefuses(t, "another size", tr.root, size, tr.objects()...)
	}
	loadRefuses(t, "a size above none", "R\x00", 1)
	one := treeOf("a")
	loadRefuses(t, "size 0 of one byte", one.root, 0, one.objects()...)
}

// P12.2: objects that are there, but are not as they must be.
func TestWrongObjects(t *testing.T) {
	tr := treeOf(pattern(600))
	withRoot := func(root string) []string { return append([]string{root}, tr.objects()...) }
	for _, root := range []string{
		"", "R", "I" + tr.root[1:], "r" + tr.root[1:], "R\x03" + tr.root[2:], "R\x01" + tr.root[2:],
		tr.root[:len(tr.root)-1], tr.root + "a", tr.root + tr.root[2:34], tr.root[:34], "R\x01" + tr.root[2:34], "R\x00",
	} {
		loadRefuses(t, "a root", root, 600, withRoot(root)...)
	}
	for _, fan := range []string{
		"", "I", "R" + tr.fans[1][1:], "B" + tr.fans[1][1:], "I\x03" + tr.fans[1][2:], tr.fans[1] + "a", tr.fans[0],
		"I\x01" + tr.fans[1][2:34], "I\x02" + tr.fans[1][2:34], "I\x00",
	} {
		root := named("R", []string{tr.fans[0], fan})
		loadRefuses(t, "a fan", root, 600, append(tr.objects(), fan)...)
	}
	for _, block := range []string{"", "B", "I" + tr.blocks[9][1:], tr.blocks[9] + "a", tr.blocks[9][:24], tr.blocks[0], tr.blocks[9][1:] + "a"} {
		fan := named("I", []string{tr.blocks[8], block})
		root := named("R", []string{tr.fans[0], fan})
		loadRefuses(t, "a block", root, 600, append(tr.objects(), fan, block)...)
	}
	short := append(slices.Clone(tr.blocks[:7]), tr.blocks[9])
	fan := named("I", short)
	loadRefuses(t, "a short block ahead of others", named("R", []string{fan, tr.fans[1]}), 600, append(tr.objects(), fan)...)
}

// P12.2: in one row what is not as it must be comes ahead of what is wanting; a row comes ahead of those below it.
func TestWrongAheadOfWanting(t *testing.T) {
	tr := treeOf(pattern(1500))
	root := named("R", []string{tr.fans[0], "I\x00", tr.fans[2]})
	loadRefuses(t, "a fan wrong, the others wanting", root, 1500, "I\x00")
	fan := named("I", append([]string{"C"}, tr.blocks[9:16]...))
	root = named("R", []string{tr.fans[0], fan, tr.fans[2]})
	loadRefuses(t, "a block wrong, the others wanting", root, 1500, tr.fans[0], fan, tr.fans[2], "C")
	loadWants(t, "a block wrong below, a fan wanting", hashOf(root), 1500, []string{root, fan, tr.fans[2], "C"}, hashesOf(tr.fans[0]))
}

// P12.2: the objects are found by their hashes; the root is none of another hash.
func TestOtherRoot(t *testing.T) {
	_, objects, _ := ftree.Build("abc")
	loadWants(t, "a hash of nothing", api.Hash{}, 3, objects, []api.Hash{{}})
	loadWants(t, "a file of none", hashOf("R\x00"), 0, objects, hashesOf("R\x00"))
}

// R4: what is handed in stays, and answers are apart.
func TestListsStay(t *testing.T) {
	_, a, _ := ftree.Build(pattern(100))
	_, b, _ := ftree.Build(pattern(100))
	a[0] = "other"
	if b[0] == "other" {
		t.Error("answers share a list")
	}
	objects := append(make([]string, 0, 20), b[:2]...)
	root, _, _ := ftree.Build(pattern(100))
	ftree.Load(root, 100, objects)
	if !slices.Equal(objects, b[:2]) || objects[:20][2] != "" {
		t.Error("the list that was handed in is another one then")
	}
}
