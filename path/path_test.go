package path_test

import (
	"slices"
	"strings"
	"testing"

	"almonry/api"
	"almonry/path"
)

// P16.1: names that may be, and names that may not.
func TestNameMay(t *testing.T) {
	for _, s := range []string{"a", " ", "...", ".a", "a.", "\x01", "\xff\xfe", "A b", strings.Repeat("x", 24)} {
		if !path.NameMay(s) {
			t.Errorf("%q may not be", s)
		}
	}
	for _, s := range []string{"", ".", "..", "/", "/a", "a/", "a/b", "\x00", "a\x00b", strings.Repeat("x", 25), strings.Repeat("x", 70000)} {
		if path.NameMay(s) {
			t.Errorf("%.30q may be", s)
		}
	}
}

// P16.1: the names of paths.
func TestSplit(t *testing.T) {
	long := strings.Repeat("x", 24)
	for p, want := range map[string][]string{
		"/":                                 nil,
		"/a":                                {"a"},
		"/a/b":                              {"a", "b"},
		"/b/a/a":                            {"b", "a", "a"},
		"/ /...":                            {" ", "..."},
		"/1/2/3/4/5/6/7/8":                  {"1", "2", "3", "4", "5", "6", "7", "8"},
		"/\xff\x01":                         {"\xff\x01"},
		strings.Repeat("/"+long, 5):         {long, long, long, long, long},
		strings.Repeat("/"+long, 5) + "/ab": {long, long, long, long, long, "ab"},
	} {
		if got, e := path.Split(p); e != api.OK || !slices.Equal(got, want) {
			t.Errorf("%q: %q, error %d", p, got, e)
		}
	}
}

// P16.1: paths that may not be.
func TestWrongPaths(t *testing.T) {
	long := strings.Repeat("x", 24)
	for _, p := range []string{
		"", "a", "a/b", " /a", "//", "//a", "/a/", "/a//b", "/a/b//", "/.", "/..", "/a/.", "/a/../b", "/a\x00", "/\x00/a",
		"/1/2/3/4/5/6/7/8/9", "/1/2/3/4/5/6/7/8/", "/" + long + "x", "/a/" + long + "x",
		strings.Repeat("/"+long, 5) + "/abc", strings.Repeat("/", 128), strings.Repeat("/", 129), strings.Repeat("/a", 100000),
	} {
		if got, e := path.Split(p); e != api.ErrPathForm || got != nil {
			t.Errorf("%.40q: %q, error %d", p, got, e)
		}
	}
}

// P16.1: a path of MaxPath bytes may be, one of one more may not.
func TestLongPaths(t *testing.T) {
	p := strings.Repeat("/"+strings.Repeat("x", 17), 7) + "/y"
	if len(p) != api.MaxPath {
		t.Fatalf("%d bytes", len(p))
	}
	if got, e := path.Split(p); e != api.OK || len(got) != 8 {
		t.Errorf("%d names, error %d", len(got), e)
	}
	if got, e := path.Split(p + "y"); e != api.ErrPathForm || got != nil {
		t.Errorf("%d names, error %d", len(got), e)
	}
}
