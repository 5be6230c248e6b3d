// Package num tells numbers as bytes, the highest first.
package num

// U8 tells x, which is from 0 to 255, as one byte.
func U8(x int) string {
	return string([]byte{byte(x)})
}

// U16 tells x, which is from 0 to 2^16 - 1, as two bytes.
func U16(x int) string {
	return string([]byte{byte(x >> 8), byte(x)})
}

// U32 tells x, which is from 0 to 2^32 - 1, as four bytes.
func U32(x int) string {
	return string([]byte{byte(x >> 24), byte(x >> 16), byte(x >> 8), byte(x)})
}

// Of tells the number whose bytes s is; s has at most four.
func Of(s string) int {
	x := 0
	for i := range len(s) {
		x = x<<8 | int(s[i])
	}
	return x
}
