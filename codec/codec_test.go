package codec_test

import (
	"slices"
	"strings"
	"testing"

	"almonry/api"
	"almonry/codec"
)

func TestThereAndBack(t *testing.T) {
	w := codec.New()
	w.Mark("XY")
	w.Num(300, 2)
	w.Text("abc", 1)
	w.Hash(api.Hash{7})
	codec.List(w, 1, []int{5, 6}, func(x int) { w.Num(x, 2) })
	codec.List(w, 1, []api.Hash{{1}, {2}}, w.Hash)
	s, ok := w.All()
	h := api.Hash{7}
	if want := "XY\x01\x2c\x03abc" + string(h[:]) + "\x02\x00\x05\x00\x06\x02"; !ok || !strings.HasPrefix(s, want) || len(s) != len(want)+64 {
		t.Fatalf("%x", s)
	}
	r := codec.Open(s)
	r.Mark("XY")
	if r.Num(2) != 300 || r.Text(1) != "abc" || r.Hash() != h || r.Done() {
		t.Error("the parts")
	}
	if got := codec.Items(r, 1, func() int { return r.Num(2) }); !slices.Equal(got, []int{5, 6}) {
		t.Errorf("%v", got)
	}
	if got := codec.Items(r, 1, r.Hash); !slices.Equal(got, []api.Hash{{1}, {2}}) || !r.Done() {
		t.Error("hashes")
	}
}

func TestErrorsStay(t *testing.T) {
	w := codec.New()
	w.Num(256, 1)
	w.Num(1, 1)
	if s, ok := w.All(); s != "" || ok {
		t.Error("a number that does not fit")
	}
	w = codec.New()
	codec.List(w, 1, make([]int, 256), func(int) { t.Error("a list that is too long is written") })
	if _, ok := w.All(); ok {
		t.Error("a list that is too long")
	}
	w = codec.New()
	w.Fail()
	if _, ok := w.All(); ok {
		t.Error("Fail")
	}
	r := codec.Open("ab")
	r.Mark("ac")
	if r.Num(1) != 0 || r.Done() {
		t.Error("another mark")
	}
	r = codec.Open("ab")
	r.Mark("ac")
	if r.Done() {
		t.Error("another mark, all read")
	}
	r = codec.Open("\x05a")
	if got := codec.Items(r, 1, func() int { return r.Num(1) }); got != nil || r.Done() {
		t.Errorf("a list that is cut: %v", got)
	}
	r = codec.Open("a")
	r.Num(1)
	r.Fail()
	if r.Done() {
		t.Error("Fail of a Reader")
	}
}
