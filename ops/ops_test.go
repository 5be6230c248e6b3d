package ops_test

import (
	"fmt"
	"math"
	"reflect"
	"slices"
	"strings"
	"testing"

	"almonry/api"
	"almonry/ops"
	"almonry/state"
)

// group tells the members of all tests here: three users, and the groups 3 (of 0 and 1) and 4 (of 2).
func group() api.Members {
	return api.Members{Users: 3, Groups: [][]int{{0, 1}, {2}}}
}

// entry makes one.
func entry(name string, owner int, num int) api.Dirent {
	return api.Dirent{Name: name, Ref: api.Ref{Owner: owner, Num: num}}
}

// sample is the state of most tests here.
func sample() api.State {
	return api.State{Tables: [][]api.Node{
		{
			{Num: 1, Kind: api.KindDir, Mode: api.ModeRead, Links: 1, Ents: []api.Dirent{
				entry("a", 0, 2), entry("b", 1, 1), entry("c", 1, 2), entry("d", 0, 3), entry("g", 3, 1),
				entry("h", 1, 3), entry("n", 2, 9), entry("s", 1, 4), entry("t", 5, 1), entry("u", 2, 1),
			}},
			{Num: 2, Kind: api.KindFile, Links: 2, Data: "hello"},
			{Num: 3, Kind: api.KindDir, Links: 1, Ents: []api.Dirent{entry("e", 0, 4), entry("f", 0, 6)}},
			{Num: 4, Kind: api.KindDir, Links: 1},
			{Num: 6, Kind: api.KindFile, Mode: api.ModeRead, Links: 1, Data: "of f"},
		},
		{
			{Num: 1, Kind: api.KindDir, Mode: api.ModeRead, Links: 1, Ents: []api.Dirent{entry("x", 0, 2)}},
			{Num: 2, Kind: api.KindFile, Mode: api.ModeRead, Links: 2, Data: "world"},
			{Num: 3, Kind: api.KindDir, Links: 1, Ents: []api.Dirent{entry("y", 1, 2)}},
			{Num: 4, Kind: api.KindFile, Links: 1, Data: "secret"},
		},
		{
			{Num: 1, Kind: api.KindDir, Mode: api.ModeRead, Links: 1, Ents: []api.Dirent{entry("w", 2, 2)}},
			{Num: 2, Kind: api.KindFile, Links: 1, Data: "of w"},
		},
		{
			{Num: 1, Kind: api.KindDir, Mode: api.ModeRead, Links: 1, Ents: []api.Dirent{entry("z", 3, 2)}},
			{Num: 2, Kind: api.KindFile, Links: 1, Data: "ours"},
		},
		nil,
	}}
}

// normal is a state whose empty lists are all nil.
func normal(s api.State) api.State {
	var tables [][]api.Node
	for _, table := range s.Tables {
		var nodes []api.Node
		for _, n := range table {
			n.Ents = append([]api.Dirent(nil), n.Ents...)
			nodes = append(nodes, n)
		}
		tables = append(tables, nodes)
	}
	return api.State{Tables: tables}
}

// same says if two states are one.
func same(a api.State, b api.State) bool {
	return reflect.DeepEqual(normal(a), normal(b))
}

// sameAnswer says if two answers are one.
func sameAnswer(a api.Answer, b api.Answer) bool {
	return a.Code == b.Code && a.Stat == b.Stat && a.Data == b.Data && slices.Equal(a.Names, b.Names)
}

// does looks that a call is answered so, and changes the state so.
func does(t *testing.T, s api.State, user int, c api.Call, want api.Answer, change func(s *api.State)) api.State {
	t.Helper()
	before := normal(s)
	after := normal(s)
	for i := range after.Tables {
		for j := range after.Tables[i] {
			after.Tables[i][j].Ents = slices.Clone(after.Tables[i][j].Ents)
		}
	}
	if change != nil {
		change(&after)
	}
	got, answer, e := ops.Do(group(), s, user, c)
	if e != api.OK || !sameAnswer(answer, want) {
		t.Errorf("user %d, %+v: %+v, error %d; not %+v", user, c, answer, e, want)
	}
	if !same(got, after) {
		t.Errorf("user %d, %+v: the state is %+v; not %+v", user, c, got, after)
	}
	if !same(s, before) {
		t.Errorf("user %d, %+v: the state that was handed in is another one then", user, c)
	}
	return got
}

// refuses looks that a call is answered by a code alone, and changes nothing.
func refuses(t *testing.T, s api.State, user int, c api.Call, code api.Errno) {
	t.Helper()
	does(t, s, user, c, api.Answer{Code: code}, nil)
}

// stat is the answer that tells of a node.
func stat(owner int, num int, kind int, mode int, links int, size int) api.Answer {
	return api.Answer{Stat: api.Stat{Ref: api.Ref{Owner: owner, Num: num}, Kind: kind, Mode: mode, Links: links, Size: size}}
}

// P17.1: which members may be.
func TestMembersMay(t *testing.T) {
	for i, m := range []api.Members{
		group(), {Users: 1}, {Users: 16}, {Users: 1, Groups: [][]int{{0}, {0}}}, {Users: 16, Groups: [][]int{{0, 15}, {0, 1, 2, 3, 4, 5, 6, 7, 8, 9, 10, 11, 12, 13, 14, 15}}},
		{Users: 2, Groups: [][]int{{0}, {0}, {0}, {0}, {1}, {1}, {1}, {1}}},
	} {
		if !ops.MembersMay(m) {
			t.Errorf("members %d may not be", i)
		}
	}
	for i, m := range []api.Members{
		{}, {Users: -1}, {Users: 17}, {Users: math.MaxInt}, {Users: math.MinInt}, {Users: 1, Groups: make([][]int, 1)},
		{Users: 2, Groups: [][]int{{0}, {0}, {0}, {0}, {1}, {1}, {1}, {1}, {1}}}, {Users: 2, Groups: [][]int{{0, 2}}}, {Users: 2, Groups: [][]int{{-1}}},
		{Users: 3, Groups: [][]int{{0}, {1, 0}}}, {Users: 3, Groups: [][]int{{1, 1}}}, {Users: 3, Groups: [][]int{{0, 2, 1}}}, {Groups: [][]int{{0}}},
	} {
		if ops.MembersMay(m) {
			t.Errorf("members %d may be", i)
		}
	}
}

// P17.1: who is in which principal.
func TestIn(t *testing.T) {
	rows := []string{"100", "010", "001", "110", "001"}
	for principal, row := range rows {
		for user := range 3 {
			if got := ops.In(group(), user, principal); got != (row[user] == '1') {
				t.Errorf("user %d in principal %d: %v", user, principal, got)
			}
		}
	}
	for _, c := range [][2]int{{-1, 0}, {3, 3}, {0, -1}, {0, 5}, {3, 0}, {-1, -1}, {math.MaxInt, 0}, {0, math.MaxInt}, {math.MinInt, math.MinInt}} {
		if ops.In(group(), c[0], c[1]) {
			t.Errorf("user %d is in principal %d", c[0], c[1])
		}
	}
	if ops.In(api.Members{}, 0, 0) || ops.In(api.Members{Users: 17}, 0, 0) {
		t.Error("of members that may not be")
	}
}

// P17.2: calls that are none.
func TestWrongCalls(t *testing.T) {
	stat := api.Call{Op: api.OpStat, Path: "/"}
	bare := sample()
	bare.Tables = bare.Tables[:4]
	more := sample()
	more.Tables = append(more.Tables, nil)
	broken := sample()
	broken.Tables[1][0].Links = 0
	for i, c := range []struct {
		m    api.Members
		s    api.State
		user int
		c    api.Call
	}{
		{api.Members{}, sample(), 0, stat}, {api.Members{Users: 5, Groups: [][]int{}}, broken, 0, stat},
		{group(), api.State{}, 0, stat}, {group(), bare, 0, stat}, {group(), more, 0, stat}, {group(), broken, 0, stat},
		{group(), sample(), -1, stat}, {group(), sample(), 3, stat}, {group(), sample(), math.MaxInt, stat},
		{group(), sample(), 0, api.Call{Op: -1, Path: "/"}}, {group(), sample(), 0, api.Call{Op: 13, Path: "/"}}, {group(), sample(), 0, api.Call{Op: math.MinInt, Path: "x"}},
	} {
		s, a, e := ops.Do(c.m, c.s, c.user, c.c)
		if e != api.ErrOpsForm || s.Tables != nil || !sameAnswer(a, api.Answer{}) {
			t.Errorf("case %d: error %d", i, e)
		}
	}
}

// P17.2: a path that layer 16 refuses comes first of all; Other is asked by Rename and Link alone.
func TestWrongPaths(t *testing.T) {
	for op := range 13 {
		for _, p := range []string{"", "a", "//", "/a/", "/..", strings.Repeat("/a", 9), "/" + strings.Repeat("x", 25)} {
			refuses(t, sample(), 2, api.Call{Op: op, Path: p, Other: "/q", At: -1, N: -1, As: -1}, api.ErrPathForm)
			if op == api.OpRename || op == api.OpLink {
				refuses(t, sample(), 2, api.Call{Op: op, Path: "/none/a", Other: p}, api.ErrPathForm)
				refuses(t, sample(), 2, api.Call{Op: op, Path: "/", Other: p}, api.ErrPathForm)
			}
		}
	}
	does(t, sample(), 0, api.Call{Op: api.OpStat, Path: "/", Other: "//"}, stat(0, 1, api.KindDir, 1, 1, 0), nil)
	does(t, sample(), 0, api.Call{Op: api.OpReaddir, Path: "/b", Other: ""}, api.Answer{Names: []string{"x"}}, nil)
}

// P17.2: going a path.
func TestGoing(t *testing.T) {
	for _, op := range []int{api.OpLookup, api.OpStat} {
		for _, c := range []struct {
			user int
			path string
			want api.Answer
		}{
			{2, "/", stat(0, 1, api.KindDir, 1, 1, 0)}, {2, "/a", stat(0, 2, api.KindFile, 0, 2, 5)}, {0, "/b/x", stat(0, 2, api.KindFile, 0, 2, 5)},
			{2, "/s", stat(1, 4, api.KindFile, 0, 1, 6)}, {0, "/d/e", stat(0, 4, api.KindDir, 0, 1, 0)}, {2, "/d", stat(0, 3, api.KindDir, 0, 1, 0)},
			{1, "/h/y", stat(1, 2, api.KindFile, 1, 2, 5)}, {2, "/g/z", stat(3, 2, api.KindFile, 0, 1, 4)},
		} {
			does(t, sample(), c.user, api.Call{Op: op, Path: c.path, At: -1, N: -1, As: 77}, c.want, nil)
		}
	}
	for _, op := range []int{api.OpLookup, api.OpStat, api.OpRead, api.OpWrite, api.OpTruncate, api.OpReaddir, api.OpChmod, api.OpLink} {
		for _, c := range []struct {
			user int
			path string
			code api.Errno
		}{
			{0, "/q", api.ErrOpsNone}, {0, "/n", api.ErrOpsNone}, {0, "/t", api.ErrOpsNone}, {0, "/n/q", api.ErrOpsNone}, {0, "/a/q", api.ErrOpsNotDir}, {0, "/b/x/q", api.ErrOpsNotDir},
			{2, "/h/y", api.ErrOpsPerm}, {0, "/h/q", api.ErrOpsPerm}, {1, "/d/e/q", api.ErrOpsPerm}, {0, "/d/e/q", api.ErrOpsNone}, {2, "/s/q", api.ErrOpsNotDir}, {1, "/A", api.ErrOpsNone},
		} {
			refuses(t, sample(), c.user, api.Call{Op: op, Path: c.path, Other: "/", At: -1, N: -1}, c.code)
		}
	}
}

// P17.2: going to a path's place.
func TestGoingToPlace(t *testing.T) {
	for _, op := range []int{api.OpCreate, api.OpMkdir, api.OpUnlink, api.OpRmdir, api.OpRename} {
		for _, c := range []struct {
			user int
			path string
			code api.Errno
		}{
			{0, "/", api.ErrOpsName}, {0, "/q/a", api.ErrOpsNone}, {0, "/n/a", api.ErrOpsNone}, {0, "/a/q", api.ErrOpsNotDir}, {0, "/a/q/r", api.ErrOpsNotDir},
			{1, "/q", api.ErrOpsPerm}, {2, "/a", api.ErrOpsPerm}, {0, "/b/q", api.ErrOpsPerm}, {2, "/g/z", api.ErrOpsPerm}, {2, "/s/q", api.ErrOpsNotDir},
			{0, "/h/y", api.ErrOpsPerm}, {0, "/h/y/q", api.ErrOpsPerm}, {1, "/d/e/q", api.ErrOpsPerm},
		} {
			refuses(t, sample(), c.user, api.Call{Op: op, Path: c.path, Other: "/q/q", As: -1}, c.code)
			if op == api.OpRename {
				refuses(t, sample(), c.user, api.Call{Op: op, Path: own(c.user), Other: c.path}, c.code)
				refuses(t, sample(), c.user, api.Call{Op: op, Path: own(c.user) + "q", Other: c.path}, c.code)
				refuses(t, sample(), c.user, api.Call{Op: api.OpLink, Path: ownFile(c.user), Other: c.path}, c.code)
			}
		}
	}
}

// own is a path whose place a user of sample may turn.
func own(user int) string {
	return []string{"/d/f", "/b/x", "/u/w"}[user]
}

// ownFile is a file that a user may turn.
func ownFile(user int) string {
	return []string{"/d/f", "/c", "/u/w"}[user]
}

// P17.2: Create and Mkdir.
func TestCreate(t *testing.T) {
	for _, kind := range []int{api.KindFile, api.KindDir} {
		op := api.OpCreate + kind
		does(t, sample(), 0, api.Call{Op: op, Path: "/dd", As: 0, Data: "not asked", N: 9}, stat(0, 5, kind, 1, 1, 0), func(s *api.State) {
			s.Tables[0] = slices.Insert(s.Tables[0], 4, api.Node{Num: 5, Kind: kind, Mode: 1, Links: 1})
			s.Tables[0][0].Ents = slices.Insert(s.Tables[0][0].Ents, 4, entry("dd", 0, 5))
		})
		does(t, sample(), 0, api.Call{Op: op, Path: "/d/e/q", As: 3}, stat(3, 3, kind, 1, 1, 0), func(s *api.State) {
			s.Tables[3] = append(s.Tables[3], api.Node{Num: 3, Kind: kind, Mode: 1, Links: 1})
			s.Tables[0][3].Ents = []api.Dirent{entry("q", 3, 3)}
		})
		does(t, sample(), 1, api.Call{Op: op, Path: "/g/a", As: 1}, stat(1, 5, kind, 1, 1, 0), func(s *api.State) {
			s.Tables[1] = append(s.Tables[1], api.Node{Num: 5, Kind: kind, Mode: 1, Links: 1})
			s.Tables[3][0].Ents = slices.Insert(s.Tables[3][0].Ents, 0, entry("a", 1, 5))
		})
		first := sample()
		first.Tables[1] = first.Tables[1][1:]
		does(t, first, 1, api.Call{Op: op, Path: "/g/a", As: 1}, stat(1, 1, kind, 1, 1, 0), func(s *api.State) {
			s.Tables[1] = slices.Insert(s.Tables[1], 0, api.Node{Num: 1, Kind: kind, Mode: 1, Links: 1})
			s.Tables[3][0].Ents = slices.Insert(s.Tables[3][0].Ents, 0, entry("a", 1, 1))
		})
		for _, as := range []int{1, 2, 4, 5, -1, math.MaxInt, math.MinInt} {
			refuses(t, sample(), 0, api.Call{Op: op, Path: "/q", As: as}, api.ErrOpsPerm)
			refuses(t, sample(), 0, api.Call{Op: op, Path: "/a", As: as}, api.ErrOpsPerm)
		}
		for _, name := range []string{"/a", "/b", "/n", "/t"} {
			refuses(t, sample(), 0, api.Call{Op: op, Path: name, As: 0}, api.ErrOpsExists)
		}
	}
}

// fill gives a table more nodes, of the numbers that are free, up to so many; each of so many bytes.
func fill(s api.State, owner int, most int, bytes int) api.State {
	has := map[int]bool{}
	for _, n := range s.Tables[owner] {
		has[n.Num] = true
	}
	for num := 1; len(s.Tables[owner]) < most; num++ {
		if !has[num] {
			s.Tables[owner] = append(s.Tables[owner], api.Node{Num: num, Links: 1, Data: strings.Repeat("x", bytes)})
		}
	}
	slices.SortFunc(s.Tables[owner], func(a, b api.Node) int { return a.Num - b.Num })
	return s
}

// crowd gives a directory entries up to so many.
func crowd(s api.State, owner int, at int, most int) api.State {
	n := &s.Tables[owner][at]
	for i := 0; len(n.Ents) < most; i++ {
		n.Ents = append(n.Ents, entry(fmt.Sprintf("zz%02d", i), 2, 30))
	}
	return s
}

// use gives an owner one file more, so that it uses so much.
func use(s api.State, owner int, used int) api.State {
	for num := 20; state.Used(s, owner) < used; num++ {
		s.Tables[owner] = append(s.Tables[owner], api.Node{Num: num, Links: 1, Data: strings.Repeat("x", min(4096, used-state.Used(s, owner)))})
	}
	return s
}

// P17.2: what is full, in its row.
func TestRoom(t *testing.T) {
	create := api.Call{Op: api.OpCreate, Path: "/g/q", As: 1}
	refuses(t, fill(sample(), 1, 32, 0), 1, create, api.ErrOpsFull)
	refuses(t, fill(sample(), 1, 32, 0), 1, api.Call{Op: api.OpMkdir, Path: "/g/z", As: 1}, api.ErrOpsExists)
	does(t, fill(sample(), 1, 31, 0), 1, create, stat(1, 32, 0, 1, 1, 0), func(s *api.State) {
		s.Tables[1] = append(s.Tables[1], api.Node{Num: 32, Mode: 1, Links: 1})
		s.Tables[3][0].Ents = slices.Insert(s.Tables[3][0].Ents, 0, entry("q", 1, 32))
	})
	full := crowd(sample(), 3, 0, 32)
	refuses(t, full, 1, create, api.ErrOpsFull)
	refuses(t, full, 1, api.Call{Op: api.OpLink, Path: "/c", Other: "/g/q"}, api.ErrOpsFull)
	refuses(t, full, 1, api.Call{Op: api.OpRename, Path: "/b/x", Other: "/g/q"}, api.ErrOpsFull)
	refuses(t, use(full, 3, 8192), 1, create, api.ErrOpsFull)
	refuses(t, fill(use(sample(), 3, 8192), 1, 32, 0), 1, create, api.ErrOpsFull)
	almost := use(sample(), 3, 8192-31)
	refuses(t, almost, 1, create, api.ErrOpsQuota)
	refuses(t, almost, 1, api.Call{Op: api.OpMkdir, Path: "/g/q", As: 3}, api.ErrOpsQuota)
	refuses(t, almost, 1, api.Call{Op: api.OpLink, Path: "/c", Other: "/g/q"}, api.ErrOpsQuota)
	refuses(t, almost, 1, api.Call{Op: api.OpRename, Path: "/b/x", Other: "/g/q"}, api.ErrOpsQuota)
	just := use(sample(), 3, 8192-32)
	does(t, just, 1, api.Call{Op: api.OpLink, Path: "/c", Other: "/g/q"}, stat(1, 2, 0, 1, 3, 5), func(s *api.State) {
		s.Tables[1][1].Links = 3
		s.Tables[3][0].Ents = slices.Insert(s.Tables[3][0].Ents, 0, entry("q", 1, 2))
	})
	does(t, crowd(sample(), 3, 0, 31), 1, create, stat(1, 5, 0, 1, 1, 0), func(s *api.State) {
		s.Tables[1] = append(s.Tables[1], api.Node{Num: 5, Mode: 1, Links: 1})
		s.Tables[3][0].Ents = slices.Insert(s.Tables[3][0].Ents, 0, entry("q", 1, 5))
	})
	does(t, use(sample(), 1, 8192), 1, api.Call{Op: api.OpCreate, Path: "/g/q", As: 1}, stat(1, 5, 0, 1, 1, 0), func(s *api.State) {
		s.Tables[1] = slices.Insert(s.Tables[1], 4, api.Node{Num: 5, Mode: 1, Links: 1})
		s.Tables[3][0].Ents = slices.Insert(s.Tables[3][0].Ents, 0, entry("q", 1, 5))
	})
}

// P17.2: Read.
func TestRead(t *testing.T) {
	read := func(p string, at int, n int) api.Call {
		return api.Call{Op: api.OpRead, Path: p, At: at, N: n, Data: "not asked"}
	}
	for _, c := range []struct {
		at, n int
		want  string
	}{{0, 5, "world"}, {0, 0, ""}, {0, 3, "wor"}, {2, 2, "rl"}, {2, 99, "rld"}, {5, 1, ""}, {4, 1, "d"}, {1, math.MaxInt, "orld"}, {5, math.MaxInt, ""}} {
		does(t, sample(), 2, read("/c", c.at, c.n), api.Answer{Data: c.want}, nil)
	}
	does(t, sample(), 0, read("/a", 0, 9), api.Answer{Data: "hello"}, nil)
	does(t, sample(), 1, read("/g/z", 0, 9), api.Answer{Data: "ours"}, nil)
	for _, c := range [][2]int{{-1, 1}, {0, -1}, {6, 0}, {math.MinInt, 1}, {math.MaxInt, 1}, {math.MaxInt, math.MaxInt}, {1, math.MinInt}} {
		refuses(t, sample(), 2, read("/c", c[0], c[1]), api.ErrOpsForm)
		refuses(t, sample(), 0, read("/s", c[0], c[1]), api.ErrOpsPerm)
		refuses(t, sample(), 2, read("/b", c[0], c[1]), api.ErrOpsDir)
	}
	refuses(t, sample(), 2, read("/", 0, 1), api.ErrOpsDir)
	refuses(t, sample(), 2, read("/h", 0, 1), api.ErrOpsDir)
	refuses(t, sample(), 2, read("/a", 0, 1), api.ErrOpsPerm)
	refuses(t, sample(), 2, read("/g/z", 0, 1), api.ErrOpsPerm)
}

// P17.2: Write.
func TestWrite(t *testing.T) {
	write := func(p string, at int, data string) api.Call {
		return api.Call{Op: api.OpWrite, Path: p, At: at, Data: data, N: -1}
	}
	for _, c := range []struct {
		at   int
		data string
		want string
	}{
		{0, "", "world"}, {0, "W", "World"}, {0, "WORLD", "WORLD"}, {0, "longer than it", "longer than it"}, {2, "XY", "woXYd"}, {3, "XYZ", "worXYZ"}, {5, "!", "world!"}, {5, "", "world"},
		{0, strings.Repeat("q", 4096), strings.Repeat("q", 4096)}, {5, strings.Repeat("q", 4091), "world" + strings.Repeat("q", 4091)},
	} {
		does(t, sample(), 1, write("/c", c.at, c.data), stat(1, 2, 0, 1, 2, len(c.want)), func(s *api.State) { s.Tables[1][1].Data = c.want })
	}
	does(t, sample(), 0, write("/g/z", 4, "."), stat(3, 2, 0, 0, 1, 5), func(s *api.State) { s.Tables[3][1].Data = "ours." })
	for _, at := range []int{-1, 6, math.MinInt, math.MaxInt} {
		refuses(t, sample(), 1, write("/c", at, "a"), api.ErrOpsForm)
		refuses(t, sample(), 1, write("/c", at, strings.Repeat("a", 5000)), api.ErrOpsForm)
		refuses(t, sample(), 2, write("/c", at, "a"), api.ErrOpsPerm)
		refuses(t, sample(), 2, write("/h", at, "a"), api.ErrOpsDir)
	}
	refuses(t, sample(), 1, write("/c", 5, strings.Repeat("a", 4092)), api.ErrOpsFull)
	refuses(t, sample(), 1, write("/c", 0, strings.Repeat("a", 4097)), api.ErrOpsFull)
	refuses(t, sample(), 1, write("/c", 0, strings.Repeat("a", 70000)), api.ErrOpsFull)
	refuses(t, use(sample(), 1, 8192), 1, write("/c", 0, strings.Repeat("a", 4097)), api.ErrOpsFull)
	refuses(t, use(sample(), 1, 8192), 1, write("/c", 0, "abcdef"), api.ErrOpsQuota)
	refuses(t, use(sample(), 1, 8190), 1, write("/c", 4, "abcd"), api.ErrOpsQuota)
	does(t, use(sample(), 1, 8190), 1, write("/c", 4, "abc"), stat(1, 2, 0, 1, 2, 7), func(s *api.State) { s.Tables[1][1].Data = "worlabc" })
	does(t, use(sample(), 1, 8192), 1, write("/c", 0, "abcde"), stat(1, 2, 0, 1, 2, 5), func(s *api.State) { s.Tables[1][1].Data = "abcde" })
	refuses(t, use(sample(), 1, 8193), 1, write("/c", 0, "abcde"), api.ErrOpsQuota)
	refuses(t, sample(), 0, write("/c", 0, "a"), api.ErrOpsPerm)
}

// P17.2: Truncate.
func TestTruncate(t *testing.T) {
	truncate := func(p string, n int) api.Call {
		return api.Call{Op: api.OpTruncate, Path: p, N: n, At: -1, Data: "not asked"}
	}
	for n := range 6 {
		does(t, sample(), 1, truncate("/c", n), stat(1, 2, 0, 1, 2, n), func(s *api.State) { s.Tables[1][1].Data = "world"[:n] })
	}
	for _, n := range []int{-1, 6, math.MinInt, math.MaxInt} {
		refuses(t, sample(), 1, truncate("/c", n), api.ErrOpsForm)
		refuses(t, sample(), 2, truncate("/c", n), api.ErrOpsPerm)
		refuses(t, sample(), 2, truncate("/b", n), api.ErrOpsDir)
	}
	does(t, use(sample(), 1, 8200), 1, truncate("/c", 5), stat(1, 2, 0, 1, 2, 5), nil)
}

// P17.2: Unlink.
func TestUnlink(t *testing.T) {
	unlink := func(p string) api.Call { return api.Call{Op: api.OpUnlink, Path: p, As: -1} }
	does(t, sample(), 0, unlink("/d/f"), api.Answer{}, func(s *api.State) {
		s.Tables[0][2].Ents = []api.Dirent{entry("e", 0, 4)}
		s.Tables[0] = s.Tables[0][:4]
	})
	once := does(t, sample(), 0, unlink("/a"), api.Answer{}, func(s *api.State) {
		s.Tables[0][0].Ents = s.Tables[0][0].Ents[1:]
		s.Tables[0][1].Links = 1
	})
	refuses(t, once, 1, unlink("/b/x"), api.ErrOpsPerm)
	does(t, sample(), 1, unlink("/h/y"), api.Answer{}, func(s *api.State) {
		s.Tables[1][2].Ents = nil
		s.Tables[1][1].Links = 1
	})
	does(t, sample(), 1, unlink("/g/z"), api.Answer{}, func(s *api.State) {
		s.Tables[3][0].Ents = nil
		s.Tables[3] = s.Tables[3][:1]
	})
	refuses(t, sample(), 0, unlink("/q"), api.ErrOpsNone)
	refuses(t, sample(), 0, unlink("/n"), api.ErrOpsNone)
	refuses(t, sample(), 0, unlink("/t"), api.ErrOpsNone)
	refuses(t, sample(), 0, unlink("/b"), api.ErrOpsDir)
	refuses(t, sample(), 0, unlink("/d"), api.ErrOpsDir)
	refuses(t, sample(), 0, unlink("/c"), api.ErrOpsPerm)
	refuses(t, sample(), 0, unlink("/s"), api.ErrOpsPerm)
}

// P17.2: Rmdir.
func TestRmdir(t *testing.T) {
	rmdir := func(p string) api.Call { return api.Call{Op: api.OpRmdir, Path: p} }
	does(t, sample(), 0, rmdir("/d/e"), api.Answer{}, func(s *api.State) {
		s.Tables[0][2].Ents = []api.Dirent{entry("f", 0, 6)}
		s.Tables[0] = slices.Delete(s.Tables[0], 3, 4)
	})
	twice := sample()
	twice.Tables[0][3].Links = 2
	does(t, twice, 0, rmdir("/d/e"), api.Answer{}, func(s *api.State) {
		s.Tables[0][2].Ents = []api.Dirent{entry("f", 0, 6)}
		s.Tables[0][3].Links = 1
	})
	looped := sample()
	looped.Tables[0][2].Ents = []api.Dirent{entry("e", 0, 4), entry("r", 0, 1)}
	looped.Tables[3][0].Ents = []api.Dirent{entry("r", 0, 1)}
	refuses(t, looped, 0, rmdir("/d/r"), api.ErrOpsPerm)
	bare := sample()
	bare.Tables[0][0].Ents = []api.Dirent{entry("r", 0, 1)}
	refuses(t, bare, 0, rmdir("/r"), api.ErrOpsPerm)
	refuses(t, sample(), 0, rmdir("/q"), api.ErrOpsNone)
	refuses(t, sample(), 0, rmdir("/n"), api.ErrOpsNone)
	refuses(t, sample(), 0, rmdir("/a"), api.ErrOpsNotDir)
	refuses(t, sample(), 0, rmdir("/s"), api.ErrOpsNotDir)
	refuses(t, sample(), 0, rmdir("/h"), api.ErrOpsPerm)
	refuses(t, sample(), 0, rmdir("/b"), api.ErrOpsPerm)
	refuses(t, sample(), 0, rmdir("/d"), api.ErrOpsEmpty)
	refuses(t, sample(), 0, rmdir("/g"), api.ErrOpsEmpty)
}

// P17.2: Rename.
func TestRename(t *testing.T) {
	rename := func(p string, other string) api.Call {
		return api.Call{Op: api.OpRename, Path: p, Other: other, N: -1, At: -1}
	}
	does(t, sample(), 0, rename("/d/f", "/d/a"), stat(0, 6, 0, 1, 1, 4), func(s *api.State) {
		s.Tables[0][2].Ents = []api.Dirent{entry("a", 0, 6), entry("e", 0, 4)}
	})
	does(t, sample(), 0, rename("/s", "/d/e/s"), stat(1, 4, 0, 0, 1, 6), func(s *api.State) {
		s.Tables[0][0].Ents = slices.Delete(s.Tables[0][0].Ents, 7, 8)
		s.Tables[0][3].Ents = []api.Dirent{entry("s", 1, 4)}
	})
	does(t, sample(), 0, rename("/b", "/d/b"), stat(1, 1, 1, 1, 1, 0), func(s *api.State) {
		s.Tables[0][0].Ents = slices.Delete(s.Tables[0][0].Ents, 1, 2)
		s.Tables[0][2].Ents = slices.Insert(s.Tables[0][2].Ents, 0, entry("b", 1, 1))
	})
	does(t, sample(), 1, rename("/b/x", "/g/a"), stat(0, 2, 0, 0, 2, 5), func(s *api.State) {
		s.Tables[1][0].Ents = nil
		s.Tables[3][0].Ents = []api.Dirent{entry("a", 0, 2), entry("z", 3, 2)}
	})
	does(t, crowd(use(sample(), 0, 8192), 0, 0, 32), 0, rename("/a", "/A"), stat(0, 2, 0, 0, 2, 5), func(s *api.State) {
		s.Tables[0][0].Ents[0].Name = "A"
	})
	refuses(t, sample(), 0, rename("/q", "/r"), api.ErrOpsNone)
	refuses(t, sample(), 0, rename("/n", "/r"), api.ErrOpsNone)
	refuses(t, sample(), 0, rename("/n", "/a"), api.ErrOpsNone)
	for _, other := range []string{"/a", "/b", "/n", "/t", "/d/e"} {
		refuses(t, sample(), 0, rename("/a", other), api.ErrOpsExists)
	}
	refuses(t, sample(), 0, rename("/d", "/d/q"), api.ErrOpsForm)
	refuses(t, sample(), 0, rename("/d", "/d/e/q"), api.ErrOpsForm)
	refuses(t, sample(), 0, rename("/d", "/d/f"), api.ErrOpsExists)
	looped := sample()
	looped.Tables[3][0].Ents = []api.Dirent{entry("r", 0, 1)}
	refuses(t, looped, 0, rename("/g/r", "/q"), api.ErrOpsForm)
	refuses(t, looped, 0, rename("/g/r", "/g/q"), api.ErrOpsForm)
	refuses(t, looped, 0, rename("/g", "/g/r/q"), api.ErrOpsForm)
	does(t, looped, 0, rename("/d", "/g/r/e"), stat(0, 3, 1, 0, 1, 0), func(s *api.State) {
		s.Tables[0][0].Ents = slices.Delete(s.Tables[0][0].Ents, 3, 4)
		s.Tables[0][0].Ents = slices.Insert(s.Tables[0][0].Ents, 3, entry("e", 0, 3))
	})
	refuses(t, crowd(sample(), 0, 3, 32), 0, rename("/d", "/d/e/q"), api.ErrOpsForm)
	refuses(t, crowd(sample(), 0, 3, 32), 0, rename("/a", "/d/e/q"), api.ErrOpsFull)
}

// P17.2: Link.
func TestLink(t *testing.T) {
	link := func(p string, other string) api.Call {
		return api.Call{Op: api.OpLink, Path: p, Other: other, N: -1}
	}
	does(t, sample(), 0, link("/a", "/d/e/q"), stat(0, 2, 0, 0, 3, 5), func(s *api.State) {
		s.Tables[0][1].Links = 3
		s.Tables[0][3].Ents = []api.Dirent{entry("q", 0, 2)}
	})
	does(t, sample(), 1, link("/g/z", "/h/z"), stat(3, 2, 0, 0, 2, 4), func(s *api.State) {
		s.Tables[3][1].Links = 2
		s.Tables[1][2].Ents = []api.Dirent{entry("y", 1, 2), entry("z", 3, 2)}
	})
	refuses(t, sample(), 0, link("/d", "/q"), api.ErrOpsDir)
	refuses(t, sample(), 0, link("/b", "/"), api.ErrOpsDir)
	refuses(t, sample(), 0, link("/c", "/q"), api.ErrOpsPerm)
	refuses(t, sample(), 2, link("/c", "/"), api.ErrOpsPerm)
	refuses(t, sample(), 0, link("/a", "/n"), api.ErrOpsExists)
	refuses(t, sample(), 0, link("/a", "/a"), api.ErrOpsExists)
	many := sample()
	many.Tables[0][1].Links = 31
	full := does(t, many, 0, link("/a", "/q"), stat(0, 2, 0, 0, 32, 5), func(s *api.State) {
		s.Tables[0][1].Links = 32
		s.Tables[0][0].Ents = slices.Insert(s.Tables[0][0].Ents, 7, entry("q", 0, 2))
	})
	refuses(t, full, 0, link("/a", "/r"), api.ErrOpsFull)
	refuses(t, full, 0, link("/a", "/q"), api.ErrOpsExists)
	refuses(t, use(full, 0, 8192), 0, link("/a", "/r"), api.ErrOpsFull)
}

// P17.2: Readdir.
func TestReaddir(t *testing.T) {
	readdir := func(p string) api.Call { return api.Call{Op: api.OpReaddir, Path: p} }
	does(t, sample(), 2, readdir("/"), api.Answer{Names: []string{"a", "b", "c", "d", "g", "h", "n", "s", "t", "u"}}, nil)
	does(t, sample(), 0, readdir("/d"), api.Answer{Names: []string{"e", "f"}}, nil)
	does(t, sample(), 0, readdir("/d/e"), api.Answer{}, nil)
	does(t, sample(), 1, readdir("/h"), api.Answer{Names: []string{"y"}}, nil)
	refuses(t, sample(), 0, readdir("/h"), api.ErrOpsPerm)
	refuses(t, sample(), 1, readdir("/d"), api.ErrOpsPerm)
	refuses(t, sample(), 0, readdir("/a"), api.ErrOpsNotDir)
	refuses(t, sample(), 0, readdir("/s"), api.ErrOpsNotDir)
}

// P17.2: Chmod.
func TestChmod(t *testing.T) {
	chmod := func(p string, n int) api.Call { return api.Call{Op: api.OpChmod, Path: p, N: n, At: -1} }
	does(t, sample(), 0, chmod("/a", 1), stat(0, 2, 0, 1, 2, 5), func(s *api.State) { s.Tables[0][1].Mode = 1 })
	does(t, sample(), 0, chmod("/", 0), stat(0, 1, 1, 0, 1, 0), func(s *api.State) { s.Tables[0][0].Mode = 0 })
	does(t, sample(), 1, chmod("/g", 0), stat(3, 1, 1, 0, 1, 0), func(s *api.State) { s.Tables[3][0].Mode = 0 })
	does(t, sample(), 1, chmod("/s", 0), stat(1, 4, 0, 0, 1, 6), nil)
	for _, n := range []int{-1, 2, 3, math.MinInt, math.MaxInt} {
		refuses(t, sample(), 0, chmod("/a", n), api.ErrOpsForm)
		refuses(t, sample(), 1, chmod("/a", n), api.ErrOpsPerm)
	}
	refuses(t, sample(), 2, chmod("/c", 1), api.ErrOpsPerm)
	hidden, _, _ := ops.Do(group(), sample(), 0, chmod("/", 0))
	refuses(t, hidden, 1, api.Call{Op: api.OpStat, Path: "/c"}, api.ErrOpsPerm)
	does(t, hidden, 1, api.Call{Op: api.OpStat, Path: "/"}, stat(0, 1, 1, 0, 1, 0), nil)
}
