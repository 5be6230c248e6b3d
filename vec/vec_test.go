package vec_test

import (
	"math"
	"slices"
	"testing"

	"almonry/api"
	"almonry/vec"
)

// good and bad are vectors and lists that are none.
var (
	good = [][]int{{0}, {256}, {0, 0, 0}, {1, 2, 256}, make([]int, 16), {256, 256, 256, 256, 256, 256, 256, 256, 256, 256, 256, 256, 256, 256, 256, 256}}
	bad  = [][]int{nil, {}, {-1}, {257}, {0, -1}, {1, 2, 257}, make([]int, 17), make([]int, 300), {math.MinInt}, {math.MaxInt, 0}}
)

// P18.1: which lists are vectors.
func TestMay(t *testing.T) {
	for _, v := range good {
		if !vec.May(v) {
			t.Errorf("%v may not be", v)
		}
	}
	for _, v := range bad {
		if vec.May(v) {
			t.Errorf("%v may be", v)
		}
	}
}

// P18.1: Below, Join, Apart of vectors.
func TestPairs(t *testing.T) {
	for _, c := range []struct {
		a, b         []int
		below, above bool
		join         []int
	}{
		{[]int{0}, []int{0}, true, true, []int{0}},
		{[]int{3}, []int{256}, true, false, []int{256}},
		{[]int{1, 2, 3}, []int{1, 2, 3}, true, true, []int{1, 2, 3}},
		{[]int{1, 2, 3}, []int{1, 2, 4}, true, false, []int{1, 2, 4}},
		{[]int{1, 2, 3}, []int{9, 9, 9}, true, false, []int{9, 9, 9}},
		{[]int{2, 2, 3}, []int{1, 2, 3}, false, true, []int{2, 2, 3}},
		{[]int{2, 0, 0}, []int{0, 0, 1}, false, false, []int{2, 0, 1}},
		{[]int{0, 7}, []int{7, 0}, false, false, []int{7, 7}},
		{[]int{5, 1, 1}, []int{1, 1, 2}, false, false, []int{5, 1, 2}},
	} {
		check(t, c.a, c.b, c.below, !c.below && !c.above, c.join)
		check(t, c.b, c.a, c.above, !c.below && !c.above, c.join)
	}
}

// check looks at all three answers of a pair.
func check(t *testing.T, a []int, b []int, wantBelow bool, wantApart bool, wantJoin []int) {
	t.Helper()
	keptA, keptB := slices.Clone(a), slices.Clone(b)
	below, e := vec.Below(a, b)
	if below != wantBelow || e != api.OK {
		t.Errorf("Below of %v, %v: %v, error %d", a, b, below, e)
	}
	apart, e := vec.Apart(a, b)
	if apart != wantApart || e != api.OK {
		t.Errorf("Apart of %v, %v: %v, error %d", a, b, apart, e)
	}
	join, e := vec.Join(a, b)
	if !slices.Equal(join, wantJoin) || e != api.OK {
		t.Errorf("Join of %v, %v: %v, error %d", a, b, join, e)
	}
	for i := range join {
		join[i] = -1
	}
	if !slices.Equal(a, keptA) || !slices.Equal(b, keptB) {
		t.Errorf("%v, %v are shared", a, b)
	}
}

// P18.1: lists that are no vectors, and vectors that are not as long as one another.
func TestWrongPairs(t *testing.T) {
	refuses := func(a []int, b []int) {
		t.Helper()
		if got, e := vec.Below(a, b); got || e != api.ErrVecForm {
			t.Errorf("Below of %v, %v: error %d", a, b, e)
		}
		if got, e := vec.Apart(a, b); got || e != api.ErrVecForm {
			t.Errorf("Apart of %v, %v: error %d", a, b, e)
		}
		if got, e := vec.Join(a, b); got != nil || e != api.ErrVecForm {
			t.Errorf("Join of %v, %v: error %d", a, b, e)
		}
	}
	for _, v := range bad {
		refuses(v, v)
		refuses(v, make([]int, max(1, min(16, len(v)))))
		refuses(make([]int, max(1, min(16, len(v)))), v)
	}
	refuses([]int{1}, []int{1, 1})
	refuses([]int{1, 1, 1}, []int{1, 1})
	refuses(make([]int, 16), make([]int, 15))
}
