package proof_test

import (
	"math"
	"slices"
	"strconv"
	"testing"

	"almonry/api"
	"almonry/mlog"
	"almonry/proof"
)

// leaves gives n leaves.
func leaves(n int) []string {
	all := make([]string, n)
	for i := range all {
		all[i] = "leaf " + strconv.Itoa(i)
	}
	return all
}

// half is the chapter's k.
func half(n int) int {
	k := 1
	for 2*k < n {
		k *= 2
	}
	return k
}

// wantPath is the chapter's PATH.
func wantPath(m int, d []string) []api.Hash {
	if len(d) == 1 {
		return nil
	}
	k := half(len(d))
	if m < k {
		return append(wantPath(m, d[:k]), mlog.Root(d[k:]))
	}
	return append(wantPath(m-k, d[k:]), mlog.Root(d[:k]))
}

// wantProof is the chapter's SUBPROOF.
func wantProof(m int, d []string, b bool) []api.Hash {
	if m == len(d) {
		if b {
			return nil
		}
		return []api.Hash{mlog.Root(d)}
	}
	k := half(len(d))
	if m <= k {
		return append(wantProof(m, d[:k], b), mlog.Root(d[k:]))
	}
	return append(wantProof(m-k, d[k:], false), mlog.Root(d[:k]))
}

var sizes = []int{1, 2, 3, 4, 5, 6, 7, 8, 9, 13, 16, 17, 31, 33, 255, 256}

// P10.1: the path of each leaf, and that it is taken.
func TestInclusion(t *testing.T) {
	for _, n := range sizes {
		d := leaves(n)
		root := mlog.Root(d)
		for i := range n {
			path, e := proof.Inclusion(d, i)
			if e != api.OK || !slices.Equal(path, wantPath(i, d)) {
				t.Fatalf("leaf %d of %d: error %d", i, n, e)
			}
			if e := proof.CheckInclusion(d[i], i, n, path, root); e != api.OK {
				t.Errorf("leaf %d of %d: check: error %d", i, n, e)
			}
			if n > 40 && i > 4 && i < n-4 {
				continue
			}
			checkFalsePaths(t, d, i, path, root)
		}
	}
}

// checkFalsePaths looks that what is not just leaf i's path is not taken.
func checkFalsePaths(t *testing.T, d []string, i int, path []api.Hash, root api.Hash) {
	t.Helper()
	n := len(d)
	check := func(what string, e api.Errno) {
		t.Helper()
		if e != api.ErrProofFalse {
			t.Errorf("leaf %d of %d, %s: error %d", i, n, what, e)
		}
	}
	check("another leaf", proof.CheckInclusion("other", i, n, path, root))
	check("another root", proof.CheckInclusion(d[i], i, n, path, api.Hash{1}))
	check("a node more", proof.CheckInclusion(d[i], i, n, append(slices.Clone(path), api.Hash{}), root))
	check("a node ahead", proof.CheckInclusion(d[i], i, n, append([]api.Hash{{}}, path...), root))
	if len(path) == 0 {
		return
	}
	check("a node less", proof.CheckInclusion(d[i], i, n, path[:len(path)-1], root))
	check("no path", proof.CheckInclusion(d[i], i, n, nil, root))
	for j := range path {
		other := slices.Clone(path)
		other[j][31] ^= 1
		check("another node", proof.CheckInclusion(d[i], i, n, other, root))
	}
	check("another place", proof.CheckInclusion(d[i], i^1, max(n, i^1+1), path, root))
}

// P10.1: a path is as long as its place makes it, even if another one makes the root.
func TestPathAsLongAsItMust(t *testing.T) {
	d := leaves(3)
	path, _ := proof.Inclusion(d, 2)
	if e := proof.CheckInclusion(d[2], 2, 4, path, mlog.Root(d)); e != api.ErrProofFalse {
		t.Errorf("a path of 3 leaves for 4: error %d", e)
	}
	if e := proof.CheckInclusion(d[2], 1, 2, path, mlog.Root(d)); e != api.OK {
		t.Errorf("the same path at a place that is as deep: error %d", e)
	}
}

// P10.1, P10.2: places and sizes that are none.
func TestWrongForms(t *testing.T) {
	d, big := leaves(5), leaves(api.MaxLog+1)
	for _, i := range []int{-1, 5, 6, math.MinInt, math.MaxInt} {
		if path, e := proof.Inclusion(d, i); path != nil || e != api.ErrProofForm {
			t.Errorf("Inclusion of %d: error %d", i, e)
		}
		if e := proof.CheckInclusion(d[0], i, 5, nil, api.Hash{}); e != api.ErrProofForm {
			t.Errorf("CheckInclusion of %d: error %d", i, e)
		}
	}
	for _, m := range []int{-1, 0, 6, math.MinInt, math.MaxInt} {
		if path, e := proof.Consistency(d, m); path != nil || e != api.ErrProofForm {
			t.Errorf("Consistency of %d: error %d", m, e)
		}
		if e := proof.CheckConsistency(m, api.Hash{}, 5, api.Hash{}, nil); e != api.ErrProofForm {
			t.Errorf("CheckConsistency of %d: error %d", m, e)
		}
	}
	if path, e := proof.Inclusion(nil, 0); path != nil || e != api.ErrProofForm {
		t.Errorf("Inclusion in none: error %d", e)
	}
	if path, e := proof.Inclusion(big, 0); path != nil || e != api.ErrProofForm {
		t.Errorf("Inclusion in too many: error %d", e)
	}
	if path, e := proof.Consistency(big, 1); path != nil || e != api.ErrProofForm {
		t.Errorf("Consistency of too many: error %d", e)
	}
	for _, size := range []int{0, -1, api.MaxLog + 1, math.MinInt, math.MaxInt} {
		if e := proof.CheckInclusion("a", 0, size, nil, api.Hash{}); e != api.ErrProofForm {
			t.Errorf("CheckInclusion of size %d: error %d", size, e)
		}
		if e := proof.CheckConsistency(1, api.Hash{}, size, api.Hash{}, nil); e != api.ErrProofForm {
			t.Errorf("CheckConsistency of size %d: error %d", size, e)
		}
	}
}

// P10.2: the proof of each beginning, and that it is taken.
func TestConsistency(t *testing.T) {
	for _, n := range sizes {
		d := leaves(n)
		root := mlog.Root(d)
		for m := 1; m <= n; m++ {
			path, e := proof.Consistency(d, m)
			if e != api.OK || !slices.Equal(path, wantProof(m, d, true)) {
				t.Fatalf("%d of %d: error %d", m, n, e)
			}
			old := mlog.Root(d[:m])
			if e := proof.CheckConsistency(m, old, n, root, path); e != api.OK {
				t.Errorf("%d of %d: check: error %d", m, n, e)
			}
			if n > 40 && m > 6 && m < n-4 {
				continue
			}
			checkFalseProofs(t, m, n, old, root, path)
		}
	}
}

// checkFalseProofs looks that what is not just the proof of m of n is not taken.
func checkFalseProofs(t *testing.T, m int, n int, old api.Hash, root api.Hash, path []api.Hash) {
	t.Helper()
	check := func(what string, e api.Errno) {
		t.Helper()
		if e != api.ErrProofFalse {
			t.Errorf("%d of %d, %s: error %d", m, n, what, e)
		}
	}
	wrong := api.Hash{1}
	check("another root", proof.CheckConsistency(m, old, n, wrong, path))
	check("another old root", proof.CheckConsistency(m, wrong, n, root, path))
	check("a node more", proof.CheckConsistency(m, old, n, root, append(slices.Clone(path), wrong)))
	check("a node ahead", proof.CheckConsistency(m, old, n, root, append([]api.Hash{wrong}, path...)))
	check("the old root ahead", proof.CheckConsistency(m, old, n, root, append([]api.Hash{old}, path...)))
	if len(path) == 0 {
		return
	}
	check("no proof", proof.CheckConsistency(m, old, n, root, nil))
	check("a node less", proof.CheckConsistency(m, old, n, root, path[:len(path)-1]))
	check("the first node less", proof.CheckConsistency(m, old, n, root, path[1:]))
	for j := range path {
		other := slices.Clone(path)
		other[j][0] ^= 1
		check("another node", proof.CheckConsistency(m, old, n, root, other))
	}
}

// P10.2: a log of another beginning is none, even if the proof makes the new root.
func TestConsistencyOfAnotherLog(t *testing.T) {
	d := leaves(7)
	other := append([]string{"another"}, d[1:]...)
	for m := 1; m <= 7; m++ {
		path, _ := proof.Consistency(d, m)
		if e := proof.CheckConsistency(m, mlog.Root(other[:m]), 7, mlog.Root(d), path); e != api.ErrProofFalse {
			t.Errorf("%d of 7: error %d", m, e)
		}
		path, _ = proof.Consistency(other, m)
		if e := proof.CheckConsistency(m, mlog.Root(d[:m]), 7, mlog.Root(other), path); e != api.ErrProofFalse {
			t.Errorf("%d of 7, the other way: error %d", m, e)
		}
	}
}

// R4: what is handed in stays, and answers are apart.
func TestListsStay(t *testing.T) {
	d := leaves(6)
	kept := slices.Clone(d)
	a, _ := proof.Inclusion(d, 2)
	b, _ := proof.Inclusion(d, 2)
	a[0] = api.Hash{}
	if b[0] == a[0] || !slices.Equal(d, kept) {
		t.Error("lists are shared")
	}
	path := append(make([]api.Hash, 0, 9), b...)
	proof.CheckInclusion(d[2], 2, 6, path, mlog.Root(d))
	proof.CheckConsistency(3, api.Hash{}, 6, api.Hash{}, path)
	if !slices.Equal(path, b) || path[:9][8] != (api.Hash{}) {
		t.Error("a path that was handed in is another one then")
	}
}
