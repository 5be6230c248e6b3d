package state_test

import (
	"crypto/sha256"
	"encoding/binary"
	"math"
	"reflect"
	"slices"
	"strings"
	"testing"

	"almonry/api"
	"almonry/dir"
	"almonry/ftree"
	"almonry/itab"
	"almonry/state"
)

// hashOf is layer 11's hash, written out.
func hashOf(data string) api.Hash {
	return sha256.Sum256([]byte("\x00" + string(binary.BigEndian.AppendUint32(nil, uint32(len(data)))) + data))
}

// hashesOf are the hashes of objects.
func hashesOf(objects ...string) []api.Hash {
	var all []api.Hash
	for _, o := range objects {
		all = append(all, hashOf(o))
	}
	return all
}

// file, folder and entry make nodes and entries that may be.
func file(num int, data string) api.Node {
	return api.Node{Num: num, Kind: api.KindFile, Mode: api.ModeRead, Links: 1, Data: data}
}

func folder(num int, es ...api.Dirent) api.Node {
	return api.Node{Num: num, Kind: api.KindDir, Links: 2, Ents: es}
}

func entry(name string, owner int, num int) api.Dirent {
	return api.Dirent{Name: name, Ref: api.Ref{Owner: owner, Num: num}}
}

// sample is a state with some of everything.
func sample() api.State {
	return api.State{Tables: [][]api.Node{
		{folder(1, entry("a", 0, 3), entry("b", 2, 7), entry("gone", 3, 9)), file(3, "hello"), file(5, strings.Repeat("x", 4096))},
		nil,
		{folder(2), file(7, "hello"), {Num: 32, Kind: api.KindFile, Links: 32, Data: strings.Repeat("y", 700)}},
		{file(1, "")},
	}}
}

// normal is a state whose empty lists are all nil.
func normal(s api.State) api.State {
	var tables [][]api.Node
	for _, table := range s.Tables {
		var nodes []api.Node
		for _, n := range table {
			n.Ents = append([]api.Dirent(nil), n.Ents...)
			nodes = append(nodes, n)
		}
		tables = append(tables, nodes)
	}
	return api.State{Tables: tables}
}

// same says if two states are one.
func same(a api.State, b api.State) bool {
	return reflect.DeepEqual(normal(a), normal(b))
}

// changed is the sample with one change.
func changed(change func(s *api.State)) api.State {
	s := sample()
	change(&s)
	return s
}

// good are states.
func good() []api.State {
	full := make([]api.Node, 32)
	for i := range full {
		full[i] = file(i+1, "")
	}
	full[0] = folder(1)
	return []api.State{
		sample(),
		{Tables: [][]api.Node{{folder(1)}}},
		{Tables: append([][]api.Node{full}, make([][]api.Node, 23)...)},
		changed(func(s *api.State) { s.Tables[0][0].Mode = 0 }),
		changed(func(s *api.State) { s.Tables[0][0].Links = 32 }),
		changed(func(s *api.State) { s.Tables[2][0].Ents = []api.Dirent{} }),
		changed(func(s *api.State) { s.Tables[0][0].Ents[0].Ref = api.Ref{Owner: 23, Num: 32} }),
	}
}

// bad are none.
func bad() []api.State {
	return []api.State{
		{}, {Tables: [][]api.Node{}}, {Tables: [][]api.Node{nil}}, {Tables: make([][]api.Node, 2)},
		changed(func(s *api.State) { s.Tables = append(s.Tables, make([][]api.Node, 21)...) }),
		changed(func(s *api.State) { s.Tables[0] = s.Tables[0][1:] }),
		changed(func(s *api.State) { s.Tables[0][0] = file(1, "") }),
		changed(func(s *api.State) { s.Tables[0][0].Num = 2 }),
		changed(func(s *api.State) { s.Tables[0], s.Tables[3] = s.Tables[3], s.Tables[0] }),
		changed(func(s *api.State) { s.Tables[2][0].Num = 0 }),
		changed(func(s *api.State) { s.Tables[2][2].Num = 33 }),
		changed(func(s *api.State) { s.Tables[2][1].Num = 2 }),
		changed(func(s *api.State) { s.Tables[2][0], s.Tables[2][1] = s.Tables[2][1], s.Tables[2][0] }),
		changed(func(s *api.State) { s.Tables[2][0].Kind = 2 }),
		changed(func(s *api.State) { s.Tables[2][1].Kind = -1 }),
		changed(func(s *api.State) { s.Tables[2][0].Mode = 2 }),
		changed(func(s *api.State) { s.Tables[2][0].Mode = -1 }),
		changed(func(s *api.State) { s.Tables[2][0].Links = 0 }),
		changed(func(s *api.State) { s.Tables[2][2].Links = 33 }),
		changed(func(s *api.State) { s.Tables[2][1].Data = strings.Repeat("a", 4097) }),
		changed(func(s *api.State) { s.Tables[2][1].Ents = []api.Dirent{entry("a", 0, 1)} }),
		changed(func(s *api.State) { s.Tables[2][0].Data = "a" }),
		changed(func(s *api.State) { s.Tables[0][0].Ents[1].Name = "a" }),
		changed(func(s *api.State) { s.Tables[0][0].Ents[1].Name = "b/" }),
		changed(func(s *api.State) { s.Tables[0][0].Ents[1].Ref.Owner = 24 }),
		changed(func(s *api.State) { s.Tables[0][0].Ents[1].Ref.Num = 0 }),
	}
}

// wantBuild is the chapter's Build.
func wantBuild(t *testing.T, s api.State) ([]api.Hash, []string) {
	var tables []api.Hash
	var objects []string
	put := func(all ...string) {
		for _, o := range all {
			if !slices.Contains(objects, o) {
				objects = append(objects, o)
			}
		}
	}
	for _, table := range s.Tables {
		var inodes []api.Inode
		for _, n := range table {
			in := api.Inode{Num: n.Num, Kind: n.Kind, Mode: n.Mode, Links: n.Links}
			if n.Kind == api.KindDir {
				bytes, e := dir.Put(n.Ents)
				if e != api.OK {
					t.Fatalf("error %d", e)
				}
				in.Root = hashOf(bytes)
				put(bytes)
			} else {
				root, all, e := ftree.Build(n.Data)
				if e != api.OK {
					t.Fatalf("error %d", e)
				}
				in.Root, in.Size = root, len(n.Data)
				put(all...)
			}
			inodes = append(inodes, in)
		}
		bytes, e := itab.Put(inodes)
		if e != api.OK {
			t.Fatalf("error %d", e)
		}
		tables = append(tables, hashOf(bytes))
		put(bytes)
	}
	return tables, objects
}

// P15.1: which states may be.
func TestMay(t *testing.T) {
	for i, s := range good() {
		if !state.May(s) {
			t.Errorf("state %d may not be", i)
		}
	}
	for i, s := range bad() {
		if state.May(s) {
			t.Errorf("state %d may be", i)
		}
	}
}

// P15.1: the state of no files, and members that may not be.
func TestEmpty(t *testing.T) {
	for _, m := range []api.Members{{Users: 1}, {Users: 16}, {Users: 3, Groups: [][]int{{0, 1}, {2}}}, {Users: 16, Groups: [][]int{{0}, {1}, {2}, {3}, {4}, {5}, {6}, {15}}}} {
		s, e := state.Empty(m)
		want := api.State{Tables: make([][]api.Node, m.Users+len(m.Groups))}
		want.Tables[0] = []api.Node{{Num: 1, Kind: api.KindDir, Mode: api.ModeRead, Links: 1}}
		if e != api.OK || !same(s, want) || !state.May(s) {
			t.Errorf("%v: error %d", m, e)
		}
	}
	for _, m := range []api.Members{{}, {Users: 17}, {Users: -1}, {Users: 1, Groups: [][]int{{}}}, {Users: 1, Groups: [][]int{{1}}}, {Users: 2, Groups: [][]int{{1, 0}}}, {Users: 2, Groups: [][]int{{0, 0}}}, {Users: 1, Groups: make([][]int, 9)}} {
		if s, e := state.Empty(m); e != api.ErrStateForm || s.Tables != nil {
			t.Errorf("%v: error %d", m, e)
		}
	}
}

// P15.2: the tables' hashes and the objects, each once, in the row in which they come first.
func TestBuild(t *testing.T) {
	for i, s := range good() {
		tables, objects, e := state.Build(s)
		wantTables, wantObjects := wantBuild(t, s)
		if e != api.OK || !slices.Equal(tables, wantTables) || !slices.Equal(objects, wantObjects) {
			t.Errorf("state %d: error %d, %d objects, not %d", i, e, len(objects), len(wantObjects))
		}
	}
	for i, s := range bad() {
		if tables, objects, e := state.Build(s); e != api.ErrStateForm || tables != nil || objects != nil {
			t.Errorf("state %d: error %d", i, e)
		}
	}
	s, _ := state.Empty(api.Members{Users: 2})
	_, objects, _ := state.Build(s)
	root := hashOf("D\x00")
	if want := []string{"D\x00", "T\x01\x01\x01\x01\x01\x00\x00" + string(root[:]), "T\x00"}; !slices.Equal(objects, want) {
		t.Errorf("the begin's objects are %q", objects)
	}
}

// P15.4: there and back, in whatever row the objects come, with others among them.
func TestThereAndBack(t *testing.T) {
	for i, s := range good() {
		tables, objects, _ := state.Build(s)
		objects = append(objects, "other", objects[0], strings.Repeat("x", api.MaxText+1))
		for range 2 {
			got, want, e := state.Load(tables, objects)
			if e != api.OK || want != nil || !same(got, s) {
				t.Errorf("state %d: error %d", i, e)
			}
			slices.Reverse(objects)
		}
	}
}

// loadWants looks that Load tells these hashes as wanting.
func loadWants(t *testing.T, what string, tables []api.Hash, objects []string, want []api.Hash) {
	t.Helper()
	s, wants, e := state.Load(tables, objects)
	if e != api.ErrStateNone || s.Tables != nil || !slices.Equal(wants, want) {
		t.Errorf("%s: error %d, %d wanting, not %d", what, e, len(wants), len(want))
	}
}

// loadRefuses looks that Load tells ErrStateForm.
func loadRefuses(t *testing.T, what string, tables []api.Hash, objects []string) {
	t.Helper()
	s, wants, e := state.Load(tables, objects)
	if e != api.ErrStateForm || s.Tables != nil || wants != nil {
		t.Errorf("%s: error %d, %d wanting", what, e, len(wants))
	}
}

// without is a list without some of its texts.
func without(objects []string, some ...string) []string {
	return slices.DeleteFunc(slices.Clone(objects), func(o string) bool { return slices.Contains(some, o) })
}

// put tells a table's bytes, which must be.
func put(t *testing.T, ns ...api.Inode) string {
	s, e := itab.Put(ns)
	if e != api.OK {
		t.Fatalf("error %d", e)
	}
	return s
}

// P15.3: of tables that are wanting each once; then of what is in them, in the row of the walk.
func TestWanting(t *testing.T) {
	s := sample()
	tables, objects, _ := state.Build(s)
	loadWants(t, "nothing there", tables, nil, tables)
	loadWants(t, "a table twice", []api.Hash{tables[0], tables[1], tables[0]}, nil, tables[:2])
	byHash := map[api.Hash]string{}
	for _, o := range objects {
		byHash[hashOf(o)] = o
	}
	loadWants(t, "some tables", tables, []string{byHash[tables[1]], byHash[tables[3]]}, []api.Hash{tables[0], tables[2]})
	loadWants(t, "a table, all else there", tables, without(objects, byHash[tables[2]]), []api.Hash{tables[2]})
	all := []string{byHash[tables[0]], byHash[tables[1]], byHash[tables[2]], byHash[tables[3]]}
	root, _ := dir.Put(s.Tables[0][0].Ents)
	_, hello, _ := ftree.Build("hello")
	_, xs, _ := ftree.Build(s.Tables[0][2].Data)
	_, ys, _ := ftree.Build(s.Tables[2][2].Data)
	last := func(list []string) string { return list[len(list)-1] }
	loadWants(t, "the tables alone", tables, all, hashesOf(root, last(hello), last(xs), "D\x00", last(ys), "R\x00"))
	loadWants(t, "roots there", tables, append(all, last(hello), last(ys)), hashesOf(root, hello[1], last(xs), "D\x00", ys[len(ys)-3], ys[len(ys)-2], "R\x00"))
	loadWants(t, "blocks wanting", tables, without(objects, hello[0], xs[0], ys[0]), hashesOf(hello[0], xs[0], ys[0]))
	loadWants(t, "a block and a directory wanting", tables, without(objects, "D\x00", ys[1]), hashesOf("D\x00", ys[1]))
	loadWants(t, "one fan of two", tables, without(objects, ys[len(ys)-3], ys[0]), hashesOf(ys[len(ys)-3]))
}

// P15.3: what is there, but is not as it must be.
func TestWrong(t *testing.T) {
	s := sample()
	tables, objects, _ := state.Build(s)
	loadRefuses(t, "no tables", nil, objects)
	loadRefuses(t, "too many tables", make([]api.Hash, 25), objects)
	loadRefuses(t, "too many tables, all there", slices.Repeat([]api.Hash{tables[0]}, 25), objects)
	other := slices.Clone(tables)
	other[1] = hashOf("D\x00")
	loadRefuses(t, "a directory as a table", other, objects)
	loadRefuses(t, "a wrong table, the others wanting", other, []string{"D\x00"})
	var unordered = "T\x02" + put(t, api.Inode{Num: 2, Links: 1})[2:] + put(t, api.Inode{Num: 1, Links: 1})[2:]
	other[1] = hashOf(unordered)
	loadRefuses(t, "a table that does not rise", other, append(objects, unordered))
	root, _, _ := ftree.Build("hello")
	for what, in := range map[string]api.Inode{
		"a file as a directory":  {Num: 1, Kind: api.KindDir, Links: 1, Root: root},
		"a directory as a file":  {Num: 1, Kind: api.KindFile, Links: 1, Size: 5, Root: hashOf("D\x00")},
		"another size of a file": {Num: 1, Kind: api.KindFile, Links: 1, Size: 6, Root: root},
	} {
		table := put(t, in)
		other[1] = hashOf(table)
		loadRefuses(t, what, other, append(slices.Clone(objects), table))
	}
}

// P15.3: the root must be there; what is wrong comes ahead of what is wanting in one row of the walk.
func TestWhatComesFirst(t *testing.T) {
	s := sample()
	tables, objects, _ := state.Build(s)
	loadRefuses(t, "another table first", []api.Hash{tables[1], tables[0]}, objects)
	loadRefuses(t, "a file first", []api.Hash{tables[3]}, objects)
	loadWants(t, "a file first, wanting", []api.Hash{tables[3]}, without(objects, "R\x00"), hashesOf("R\x00"))
	wrong := put(t, api.Inode{Num: 1, Kind: api.KindDir, Links: 1, Root: hashOf("T\x00")})
	bad := []api.Hash{tables[0], hashOf(wrong)}
	loadRefuses(t, "one wrong, another wanting", bad, without(append(objects, wrong), "Bhello"))
	tables[1] = hashOf("nowhere")
	tables[2] = hashOf(wrong)
	loadWants(t, "a table wanting, something wrong in another", tables, append(objects, wrong), hashesOf("nowhere"))
}

// P15.3: what an owner uses.
func TestUsed(t *testing.T) {
	s := sample()
	for owner, want := range []int{5 + 4096 + 3*32, 0, 5 + 700, 0} {
		if got := state.Used(s, owner); got != want {
			t.Errorf("owner %d uses %d, not %d", owner, got, want)
		}
	}
	for _, owner := range []int{-1, 4, 24, math.MinInt, math.MaxInt} {
		if got := state.Used(s, owner); got != 0 {
			t.Errorf("owner %d uses %d", owner, got)
		}
	}
	odd := api.State{Tables: [][]api.Node{{{Kind: api.KindFile, Data: "abc", Ents: make([]api.Dirent, 2)}, {Kind: api.KindDir, Data: "de"}}}}
	if got := state.Used(odd, 0); got != 5+64 {
		t.Errorf("whatever the kind: %d", got)
	}
	if got := state.Used(api.State{}, 0); got != 0 {
		t.Errorf("of no tables: %d", got)
	}
}

// R4: answers are apart from what was handed in, and from each other.
func TestAnswersAreApart(t *testing.T) {
	s := sample()
	tables, objects, _ := state.Build(s)
	kept := slices.Clone(objects)
	a, _, _ := state.Load(tables, objects)
	b, _, _ := state.Load(tables, objects)
	a.Tables[0][0].Ents[0].Name = "changed"
	a.Tables[2][1].Data = "changed"
	a.Tables[0] = nil
	if !same(b, sample()) || !same(s, sample()) || !slices.Equal(objects, kept) {
		t.Error("lists are shared")
	}
}

// DOC.md's sizes: a state of many full files is built and loaded soon.
func TestGreatState(t *testing.T) {
	s := api.State{}
	for owner := range 24 {
		var table []api.Node
		for num := 1; num <= 32; num++ {
			if owner == 0 && num == 1 {
				table = append(table, folder(1))
				continue
			}
			table = append(table, file(num, strings.Repeat(string(rune('a'+owner))+string(rune('A'+num))+"-", 1365)))
		}
		s.Tables = append(s.Tables, table)
	}
	tables, objects, e := state.Build(s)
	if e != api.OK {
		t.Fatalf("error %d", e)
	}
	if got, _, e := state.Load(tables, objects); e != api.OK || !same(got, s) {
		t.Errorf("error %d", e)
	}
}
