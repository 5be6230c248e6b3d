package wire_test

import (
	"math"
	"strings"
	"testing"

	"almonry/api"
	"almonry/wire"
)

// hash gives a hash of bytes that are not all alike.
func hash(first byte) api.Hash {
	var h api.Hash
	for i := range h {
		h[i] = first + byte(i)
	}
	return h
}

// full gives a Writer with so many bytes.
func full(t *testing.T, n int) *wire.Writer {
	w := wire.New()
	for len(w.All())+2+65000 <= n {
		if e := w.Text(strings.Repeat("a", 65000), 2); e != api.OK {
			t.Fatalf("error %d", e)
		}
	}
	for len(w.All()) < n {
		if e := w.Num(0, 1); e != api.OK {
			t.Fatalf("error %d", e)
		}
	}
	return w
}

// P3.1: the bytes of numbers, texts, hashes, one behind the other.
func TestWhatIsWritten(t *testing.T) {
	w := wire.New()
	if w.All() != "" {
		t.Error("a new Writer holds something")
	}
	h := hash(9)
	steps := []struct {
		write func() api.Errno
		bytes string
	}{
		{func() api.Errno { return w.Num(0, 1) }, "\x00"},
		{func() api.Errno { return w.Num(255, 1) }, "\xff"},
		{func() api.Errno { return w.Num(0x1234, 2) }, "\x12\x34"},
		{func() api.Errno { return w.Num(65535, 2) }, "\xff\xff"},
		{func() api.Errno { return w.Num(0x12345678, 4) }, "\x12\x34\x56\x78"},
		{func() api.Errno { return w.Num(1<<32-1, 4) }, "\xff\xff\xff\xff"},
		{func() api.Errno { return w.Text("", 1) }, "\x00"},
		{func() api.Errno { return w.Text("abc", 1) }, "\x03abc"},
		{func() api.Errno { return w.Text("de", 2) }, "\x00\x02de"},
		{func() api.Errno { return w.Text("\x00\xff", 4) }, "\x00\x00\x00\x02\x00\xff"},
		{func() api.Errno { return w.Hash(h) }, string(h[:])},
	}
	all := ""
	for i, s := range steps {
		if e := s.write(); e != api.OK {
			t.Fatalf("step %d: error %d", i, e)
		}
		all += s.bytes
		if w.All() != all {
			t.Fatalf("step %d: %x, not %x", i, w.All(), all)
		}
	}
}

// P3.1: sizes that are none, numbers and lengths that do not fit.
func TestWhatIsNotWritten(t *testing.T) {
	w := wire.New()
	for _, size := range []int{-4, -1, 0, 3, 5, 8, math.MaxInt, math.MinInt} {
		if e := w.Num(0, size); e != api.ErrWireForm {
			t.Errorf("Num of size %d: error %d", size, e)
		}
		if e := w.Text("", size); e != api.ErrWireForm {
			t.Errorf("Text of size %d: error %d", size, e)
		}
	}
	for _, size := range []int{1, 2, 4} {
		for _, x := range []int{-1, math.MinInt, 1 << (8 * size), math.MaxInt} {
			if e := w.Num(x, size); e != api.ErrWireForm {
				t.Errorf("Num of %d, size %d: error %d", x, size, e)
			}
		}
	}
	if e := w.Text(strings.Repeat("a", 256), 1); e != api.ErrWireForm {
		t.Errorf("256 bytes, length of 1: error %d", e)
	}
	if e := w.Text(strings.Repeat("a", 65536), 2); e != api.ErrWireForm {
		t.Errorf("65,536 bytes, length of 2: error %d", e)
	}
	if w.All() != "" {
		t.Error("something was written")
	}
	if e := w.Text(strings.Repeat("a", 255), 1); e != api.OK {
		t.Errorf("255 bytes, length of 1: error %d", e)
	}
}

// P3.1: up to MaxText bytes, and nothing of what would be more.
func TestBoundOfWriter(t *testing.T) {
	w := full(t, api.MaxText-32)
	if e := w.Hash(hash(1)); e != api.OK || len(w.All()) != api.MaxText {
		t.Errorf("up to the bound: error %d, %d bytes", e, len(w.All()))
	}
	cases := []struct {
		name  string
		room  int
		write func(w *wire.Writer) api.Errno
	}{
		{"Num of 1", 0, func(w *wire.Writer) api.Errno { return w.Num(1, 1) }},
		{"Num of 2", 1, func(w *wire.Writer) api.Errno { return w.Num(1, 2) }},
		{"Num of 4", 3, func(w *wire.Writer) api.Errno { return w.Num(1, 4) }},
		{"Text", 4, func(w *wire.Writer) api.Errno { return w.Text("abc", 2) }},
		{"Text's length", 1, func(w *wire.Writer) api.Errno { return w.Text("", 2) }},
		{"Hash", 31, func(w *wire.Writer) api.Errno { return w.Hash(hash(1)) }},
	}
	for _, c := range cases {
		w := full(t, api.MaxText-c.room)
		before := w.All()
		if e := c.write(w); e != api.ErrWireLong || w.All() != before {
			t.Errorf("%s with room for %d: error %d, %d bytes more", c.name, c.room, e, len(w.All())-len(before))
		}
		if c.room > 0 {
			if e := w.Num(7, 1); e != api.OK || w.All() != before+"\x07" {
				t.Errorf("%s: what fits behind it: error %d", c.name, e)
			}
		}
	}
	if e := full(t, api.MaxText-5).Text("abc", 2); e != api.OK {
		t.Errorf("a Text that just fits: error %d", e)
	}
	if e := wire.New().Text(strings.Repeat("a", api.MaxText), 4); e != api.ErrWireLong {
		t.Errorf("a Text of MaxText bytes: error %d", e)
	}
	if e := full(t, api.MaxText).Num(256, 1); e != api.ErrWireForm {
		t.Errorf("both errors: error %d", e)
	}
}

// P3.2: what was written is read, and how much is left.
func TestWhatIsRead(t *testing.T) {
	h := hash(200)
	s := "\xfe\x12\x34\xff\xff\xff\xff\x02ab\x00\x01c\x00\x00\x00\x00" + string(h[:]) + "z"
	r := wire.Open(s)
	left := len(s)
	number := func(size int, want int) {
		x, e := r.Num(size)
		left -= size
		if x != want || e != api.OK || r.Left() != left {
			t.Errorf("Num of %d: %d, error %d, %d left", size, x, e, r.Left())
		}
	}
	text := func(size int, want string) {
		x, e := r.Text(size)
		left -= size + len(want)
		if x != want || e != api.OK || r.Left() != left {
			t.Errorf("Text of %d: %q, error %d, %d left", size, x, e, r.Left())
		}
	}
	number(1, 254)
	number(2, 0x1234)
	number(4, 1<<32-1)
	text(1, "ab")
	text(2, "c")
	text(4, "")
	if got, e := r.Hash(); got != h || e != api.OK || r.Left() != 1 {
		t.Errorf("Hash: error %d, %d left", e, r.Left())
	}
	left = 1
	number(1, 'z')
	if r.Left() != 0 {
		t.Errorf("%d left", r.Left())
	}
}

// P3.2: where bytes are wanting nothing is gone past, and sizes that are none.
func TestWhatIsNotRead(t *testing.T) {
	cases := []struct {
		text string
		read func(r *wire.Reader) (any, api.Errno)
		zero any
		e    api.Errno
	}{
		{"", func(r *wire.Reader) (any, api.Errno) { return r.Num(1) }, 0, api.ErrWireCut},
		{"a", func(r *wire.Reader) (any, api.Errno) { return r.Num(2) }, 0, api.ErrWireCut},
		{"abc", func(r *wire.Reader) (any, api.Errno) { return r.Num(4) }, 0, api.ErrWireCut},
		{"", func(r *wire.Reader) (any, api.Errno) { return r.Num(3) }, 0, api.ErrWireForm},
		{"abcdefgh", func(r *wire.Reader) (any, api.Errno) { return r.Num(0) }, 0, api.ErrWireForm},
		{"abcdefgh", func(r *wire.Reader) (any, api.Errno) { return r.Num(8) }, 0, api.ErrWireForm},
		{"abcdefgh", func(r *wire.Reader) (any, api.Errno) { return r.Num(-1) }, 0, api.ErrWireForm},
		{"", func(r *wire.Reader) (any, api.Errno) { return r.Text(1) }, "", api.ErrWireCut},
		{"\x00", func(r *wire.Reader) (any, api.Errno) { return r.Text(2) }, "", api.ErrWireCut},
		{"\x03ab", func(r *wire.Reader) (any, api.Errno) { return r.Text(1) }, "", api.ErrWireCut},
		{"\xff\xff\xff\xffab", func(r *wire.Reader) (any, api.Errno) { return r.Text(4) }, "", api.ErrWireCut},
		{"\x00\x00\x00", func(r *wire.Reader) (any, api.Errno) { return r.Text(3) }, "", api.ErrWireForm},
		{strings.Repeat("a", 31), func(r *wire.Reader) (any, api.Errno) { return r.Hash() }, api.Hash{}, api.ErrWireCut},
	}
	for i, c := range cases {
		r := wire.Open(c.text)
		got, e := c.read(r)
		if got != c.zero || e != c.e || r.Left() != len(c.text) {
			t.Errorf("case %d: %v, error %d, %d left", i, got, e, r.Left())
		}
		if c.text != "" {
			if x, e := r.Num(1); x != int(c.text[0]) || e != api.OK {
				t.Errorf("case %d: it stands elsewhere: %d", i, x)
			}
		}
	}
}

// P3.1, P3.2: there and back.
func TestThereAndBack(t *testing.T) {
	w := wire.New()
	for i := range 300 {
		w.Num(i*7%256, 1)
		w.Num(i*211, 2)
		w.Num(i*9999999, 4)
		w.Text(strings.Repeat("x", i%40), 1+i%2)
		w.Hash(hash(byte(i)))
	}
	r := wire.Open(w.All())
	for i := range 300 {
		a, _ := r.Num(1)
		b, _ := r.Num(2)
		c, _ := r.Num(4)
		s, _ := r.Text(1 + i%2)
		h, e := r.Hash()
		if a != i*7%256 || b != i*211 || c != i*9999999 || s != strings.Repeat("x", i%40) || h != hash(byte(i)) || e != api.OK {
			t.Fatalf("row %d", i)
		}
	}
	if r.Left() != 0 {
		t.Errorf("%d left", r.Left())
	}
}

// P3.2: a text of more than MaxText bytes can be read.
func TestReadLongText(t *testing.T) {
	s := strings.Repeat("a", api.MaxText)
	if got, e := wire.Open("\x00\x01\x00\x00" + s).Text(4); got != s || e != api.OK {
		t.Errorf("%d bytes, error %d", len(got), e)
	}
}

// R3: methods of nil pointers.
func TestNilObjects(t *testing.T) {
	var w *wire.Writer
	if w.Num(1, 1) != api.ErrNil || w.Text("a", 9) != api.ErrNil || w.Hash(hash(1)) != api.ErrNil || w.All() != "" {
		t.Error("a nil Writer")
	}
	var r *wire.Reader
	if x, e := r.Num(3); x != 0 || e != api.ErrNil {
		t.Error("a nil Reader's Num")
	}
	if s, e := r.Text(1); s != "" || e != api.ErrNil {
		t.Error("a nil Reader's Text")
	}
	if h, e := r.Hash(); h != (api.Hash{}) || e != api.ErrNil || r.Left() != 0 {
		t.Error("a nil Reader's Hash")
	}
}
