package kinds_test

import (
	"testing"

	"almonry/api"
	"almonry/kinds"
)

func TestOtsOf(t *testing.T) {
	w4, ok4 := kinds.OtsOf(api.OtsW4)
	w8, ok8 := kinds.OtsOf(api.OtsW8)
	if !ok4 || !ok8 || w4.Steps() != 15 || w8.Steps() != 255 || w4.Length() != 2180 || w8.Length() != 1124 {
		t.Errorf("%v, %v", w4, w8)
	}
	for _, kind := range []int{-1, 0, 1, 2, 5} {
		if _, ok := kinds.OtsOf(kind); ok {
			t.Errorf("%d is a kind", kind)
		}
	}
}

func TestTypes(t *testing.T) {
	for height := 1; height <= api.MaxHeight; height++ {
		if got, ok := kinds.HeightOf(kinds.TypeOf(height)); got != height || !ok || !kinds.HeightMay(height) {
			t.Errorf("height %d is %d then", height, got)
		}
	}
	if kinds.TypeOf(5) != 5 || kinds.TypeOf(2) != 0xf0000002 {
		t.Error("types")
	}
	for _, kind := range []int{0, 4, 6, 0xf0000000, 0xf0000005, -1} {
		if _, ok := kinds.HeightOf(kind); ok {
			t.Errorf("%d is a type", kind)
		}
	}
	if kinds.HeightMay(0) || kinds.HeightMay(6) {
		t.Error("heights")
	}
}

func TestTreeLength(t *testing.T) {
	w4, _ := kinds.OtsOf(api.OtsW4)
	if got := kinds.TreeLength(w4, 5); got != 2348 {
		t.Errorf("%d bytes", got)
	}
}
