package num_test

import (
	"testing"

	"almonry/num"
)

func TestBytesOfNumbers(t *testing.T) {
	told := []struct{ got, want string }{
		{num.U8(0), "\x00"},
		{num.U8(255), "\xff"},
		{num.U16(0x1234), "\x12\x34"},
		{num.U16(65535), "\xff\xff"},
		{num.U32(0x12345678), "\x12\x34\x56\x78"},
		{num.U32(1<<32 - 1), "\xff\xff\xff\xff"},
	}
	for _, x := range told {
		if x.got != x.want {
			t.Errorf("%x, not %x", x.got, x.want)
		}
	}
}

func TestNumbersOfBytes(t *testing.T) {
	for _, x := range []int{0, 1, 255, 256, 65535, 1 << 31, 1<<32 - 1} {
		if num.Of(num.U32(x)) != x {
			t.Errorf("%d is %d then", x, num.Of(num.U32(x)))
		}
	}
	if num.Of("") != 0 || num.Of("\x80") != 128 || num.Of("\x80\x01") != 32769 {
		t.Error("short texts")
	}
}
