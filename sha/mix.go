package sha

// mix works one block into the words.
func mix(words *[8]uint32, block *[blockSize]byte) {
	table := constants()
	var w [64]uint32
	for i := range 16 {
		w[i] = uint32(block[4*i])<<24 | uint32(block[4*i+1])<<16 | uint32(block[4*i+2])<<8 | uint32(block[4*i+3])
	}
	for i := 16; i < 64; i++ {
		w[i] = w[i-16] + spread(w[i-15], 7, 18, 3) + w[i-7] + spread(w[i-2], 17, 19, 10)
	}
	a, b, c, d, e, f, g, h := words[0], words[1], words[2], words[3], words[4], words[5], words[6], words[7]
	for i := 0; i < 64; i += 8 {
		k, v := (*[8]uint32)(table[i:]), (*[8]uint32)(w[i:])
		h += lower(e, f, g) + k[0] + v[0]
		d, h = d+h, h+upper(a, b, c)
		g += lower(d, e, f) + k[1] + v[1]
		c, g = c+g, g+upper(h, a, b)
		f += lower(c, d, e) + k[2] + v[2]
		b, f = b+f, f+upper(g, h, a)
		e += lower(b, c, d) + k[3] + v[3]
		a, e = a+e, e+upper(f, g, h)
		d += lower(a, b, c) + k[4] + v[4]
		h, d = h+d, d+upper(e, f, g)
		c += lower(h, a, b) + k[5] + v[5]
		g, c = g+c, c+upper(d, e, f)
		b += lower(g, h, a) + k[6] + v[6]
		f, b = f+b, b+upper(c, d, e)
		a += lower(f, g, h) + k[7] + v[7]
		e, a = e+a, a+upper(b, c, d)
	}
	words[0] += a
	words[1] += b
	words[2] += c
	words[3] += d
	words[4] += e
	words[5] += f
	words[6] += g
	words[7] += h
}

// lower is what a round makes of the three words behind the fourth.
func lower(e, f, g uint32) uint32 {
	return stir(e, 6, 11, 25) + (g ^ e&(f^g))
}

// upper is what a round makes of the first three words.
func upper(a, b, c uint32) uint32 {
	return stir(a, 2, 13, 22) + (a&b | c&(a|b))
}

// turn moves x's bits n places to the right, those that fall out in at the left.
func turn(x uint32, n uint) uint32 {
	return x>>n | x<<(32-n)
}

// stir is the standard's big sigma: three turns.
func stir(x uint32, a, b, c uint) uint32 {
	return turn(x, a) ^ turn(x, b) ^ turn(x, c)
}

// spread is the standard's small sigma: two turns and a shift.
func spread(x uint32, a, b, c uint) uint32 {
	return turn(x, a) ^ turn(x, b) ^ x>>c
}

// firstWords: the fractions of the square roots of the first eight primes.
func firstWords() [8]uint32 {
	return [8]uint32{
		0x6a09e667, 0xbb67ae85, 0x3c6ef372, 0xa54ff53a, 0x510e527f, 0x9b05688c, 0x1f83d9ab, 0x5be0cd19,
	}
}

// constants: the fractions of the cube roots of the first sixty-four primes.
func constants() [64]uint32 {
	return [64]uint32{
		0x428a2f98, 0x71374491, 0xb5c0fbcf, 0xe9b5dba5, 0x3956c25b, 0x59f111f1, 0x923f82a4, 0xab1c5ed5,
		0xd807aa98, 0x12835b01, 0x243185be, 0x550c7dc3, 0x72be5d74, 0x80deb1fe, 0x9bdc06a7, 0xc19bf174,
		0xe49b69c1, 0xefbe4786, 0x0fc19dc6, 0x240ca1cc, 0x2de92c6f, 0x4a7484aa, 0x5cb0a9dc, 0x76f988da,
		0x983e5152, 0xa831c66d, 0xb00327c8, 0xbf597fc7, 0xc6e00bf3, 0xd5a79147, 0x06ca6351, 0x14292967,
		0x27b70a85, 0x2e1b2138, 0x4d2c6dfc, 0x53380d13, 0x650a7354, 0x766a0abb, 0x81c2c92e, 0x92722c85,
		0xa2bfe8a1, 0xa81a664b, 0xc24b8b70, 0xc76c51a3, 0xd192e819, 0xd6990624, 0xf40e3585, 0x106aa070,
		0x19a4c116, 0x1e376c08, 0x2748774c, 0x34b0bcb5, 0x391c0cb3, 0x4ed8aa4a, 0x5b9cca4f, 0x682e6ff3,
		0x748f82ee, 0x78a5636f, 0x84c87814, 0x8cc70208, 0x90befffa, 0xa4506ceb, 0xbef9a3f7, 0xc67178f2,
	}
}
