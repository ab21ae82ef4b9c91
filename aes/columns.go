package aes

import (
	"iter"
	"math/bits"
)

// four are a block's columns. A column is a number, the highest byte of which stands in row 0: so its bytes are doubled, and added, all at once.
type four [4]uint32

// sWords are S of all bytes, eight a word, the highest first. They stand here worked out, since a block asks for up to 224 of them.
var sWords = [32]uint64{
	0x637c777bf26b6fc5, 0x3001672bfed7ab76, 0xca82c97dfa5947f0, 0xadd4a2af9ca472c0,
	0xb7fd9326363ff7cc, 0x34a5e5f171d83115, 0x04c723c31896059a, 0x071280e2eb27b275,
	0x09832c1a1b6e5aa0, 0x523bd6b329e32f84, 0x53d100ed20fcb15b, 0x6acbbe394a4c58cf,
	0xd0efaafb434d3385, 0x45f9027f503c9fa8, 0x51a3408f929d38f5, 0xbcb6da2110fff3d2,
	0xcd0c13ec5f974417, 0xc4a77e3d645d1973, 0x60814fdc222a9088, 0x46eeb814de5e0bdb,
	0xe0323a0a4906245c, 0xc2d3ac629195e479, 0xe7c8376d8dd54ea9, 0x6c56f4ea657aae08,
	0xba78252e1ca6b4c6, 0xe8dd741f4bbd8b8a, 0x703eb5664803f60e, 0x613557b986c11d9e,
	0xe1f8981169d98e94, 0x9b1e87e9ce5528df, 0x8ca1890dbfe64268, 0x41992d0fb054bb16,
}

// column is the column of these bytes, from row 0 on.
func column(a, b, c, d byte) uint32 {
	return uint32(a)<<24 | uint32(b)<<16 | uint32(c)<<8 | uint32(d)
}

// row is the column's byte in row r.
func row(x uint32, r int) byte { return byte(x >> (24 - 8*r)) }

// turned is the column with each byte n rows higher, round about.
func turned(x uint32, n int) uint32 { return bits.RotateLeft32(x, 8*n) }

// doubled is the column with each byte times 2.
func doubled(x uint32) uint32 {
	over := x >> 7 & 0x01010101 // a 1 where a byte has x^7: twice that is x^4 + x^3 + x + 1
	return x<<1&0xfefefefe ^ over*0x1b
}

// mixed is the column as a round leaves it: 2a + 3b + c + d is twice a + b, and b, c and d; the other rows likewise.
func mixed(x uint32) uint32 {
	return doubled(x^turned(x, 1)) ^ turned(x, 1) ^ turned(x, 2) ^ turned(x, 3)
}

// substituted is the column with S of each byte.
func substituted(x uint32) uint32 {
	return column(S(row(x, 0)), S(row(x, 1)), S(row(x, 2)), S(row(x, 3)))
}

// taken are the columns of a block's bytes.
func taken(block [16]byte) (b four) {
	for i := range b {
		b[i] = column(block[4*i], block[4*i+1], block[4*i+2], block[4*i+3])
	}
	return b
}

// put are the bytes of the columns.
func (b four) put() (block [16]byte) {
	for i := range block {
		block[i] = row(b[i/4], i%4)
	}
	return block
}

// shifted goes over the columns as they are when the bytes of row r have gone r columns to the left, round about.
func (b four) shifted() iter.Seq2[int, uint32] {
	return func(yield func(int, uint32) bool) {
		for i := range b {
			x := column(row(b[i], 0), row(b[(i+1)%4], 1), row(b[(i+2)%4], 2), row(b[(i+3)%4], 3))
			if !yield(i, x) {
				return
			}
		}
	}
}

// round is the block behind round n. (S comes to the same behind the rows' shift as ahead of it: it looks at one byte alone.)
func (c *Cipher) round(n int, b four) (next four) {
	for i, x := range b.shifted() {
		x = substituted(x)
		if n < c.rounds {
			x = mixed(x)
		}
		next[i] = x ^ c.columns[4*n+i]
	}
	return next
}

// fill works out the columns behind the key's own.
func (c *Cipher) fill(own int) {
	add := column(1, 0, 0, 0)
	for i := own; i < 4*(c.rounds+1); i++ {
		t := c.columns[i-1]
		switch {
		case i%own == 0:
			t = substituted(turned(t, 1)) ^ add
			add = doubled(add)
		case i%own == 4: // of a longer key alone
			t = substituted(t)
		}
		c.columns[i] = c.columns[i-own] ^ t
	}
}
