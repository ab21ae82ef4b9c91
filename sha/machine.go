package sha

import "math/bits"

// word is a number that the machine works on: of 32 bits for SHA-256, of 64 for SHA-512.
type word interface{ uint32 | uint64 }

// three are places by which a word goes to the right. (Three in an array would go through memory at each round, and take thrice as long.)
type three struct{ x, y, z uint }

// places tell how far a word is turned to the right; of u and v the last one tells how far it is shifted.
type places struct{ a, e, u, v three }

// blockWords is how many words a block has.
const blockWords = 16

// machine takes a text in, block by block.
type machine[W word] struct {
	by     places
	rounds int
	state  [8]W
	block  [blockWords * 8]byte // SHA-256 needs the first half alone
	filled int                  // bytes of the block that wait
	length uint64               // bytes of the text so far
}

// begun is a machine that has taken in nothing yet.
func begun[W word](rounds int, p places) *machine[W] {
	m := &machine[W]{by: p, rounds: rounds}
	for i := range m.state {
		m.state[i] = upper[W](beginWords[i])
	}
	return m
}

// wordBytes is how many bytes a word has.
func wordBytes[W word]() int { return bits.Len64(uint64(^W(0))) / 8 }

// upper is as much of the number, from its highest bit on, as a word has room for.
func upper[W word](x uint64) W { return W(x >> (64 - 8*wordBytes[W]())) }

// right is the word turned to the right by n places. Both counts are cut to the word's bits, so that the compiler sees that neither is too great, and lays no checks into the rounds.
func right[W word](x W, n uint) W {
	last := uint(8*wordBytes[W]() - 1)
	return x>>(n&last) | x<<(-n&last)
}

// turned is A, or E, of a word.
func turned[W word](x W, p three) W {
	return right(x, p.x) ^ right(x, p.y) ^ right(x, p.z)
}

// shifted is U, or V, of a word.
func shifted[W word](x W, p three) W {
	return right(x, p.x) ^ right(x, p.y) ^ x>>p.z
}

// blockBytes is how many bytes a block has.
func (m *machine[W]) blockBytes() int { return blockWords * wordBytes[W]() }

// sum puts the sum of the text that all of l are.
func (m *machine[W]) sum(out []byte, l [][]byte) {
	for _, text := range l {
		m.write(text)
	}
	m.finish()
	m.put(out)
}

// write takes in what is next of the text; what makes no whole block waits.
func (m *machine[W]) write(text []byte) {
	m.length += uint64(len(text))
	for len(text) > 0 {
		n := copy(m.block[m.filled:m.blockBytes()], text)
		text = text[n:]
		m.filled += n
		if m.filled == m.blockBytes() {
			m.takeIn()
		}
	}
}

// finish takes in what stands behind the text: a byte 128, bytes 0, and how many bits the text has.
func (m *machine[W]) finish() {
	m.block[m.filled] = 128
	m.filled++
	clear(m.block[m.filled:])
	if m.filled > m.blockBytes()-2*wordBytes[W]() { // the length has no room in this block
		m.takeIn()
		clear(m.block[:])
	}
	// A text's bits fit in 64 by far, so that the length's bytes ahead of the last eight stay 0.
	for i := range 8 {
		m.block[m.blockBytes()-1-i] = byte(m.length << 3 >> (8 * i))
	}
	m.takeIn()
}

// takeIn takes in the block; it is empty then.
func (m *machine[W]) takeIn() {
	w := m.schedule()
	a, b, c, d := m.state[0], m.state[1], m.state[2], m.state[3]
	e, f, g, h := m.state[4], m.state[5], m.state[6], m.state[7]
	for t := range m.rounds {
		p := h + turned(e, m.by.e) + (e&f ^ ^e&g) + upper[W](roundWords[t]) + w[t]
		q := turned(a, m.by.a) + (a&b ^ a&c ^ b&c)
		a, b, c, d, e, f, g, h = p+q, a, b, c, d+p, e, f, g
	}
	for i, x := range [8]W{a, b, c, d, e, f, g, h} {
		m.state[i] += x
	}
	m.filled = 0
}

// schedule are the block's words, and those that come of them, up to the rounds.
func (m *machine[W]) schedule() (w [80]W) {
	size := wordBytes[W]()
	for t := range blockWords {
		for _, b := range m.block[t*size : (t+1)*size] {
			w[t] = w[t]<<8 | W(b)
		}
	}
	for t := blockWords; t < m.rounds; t++ {
		w[t] = shifted(w[t-2], m.by.v) + w[t-7] + shifted(w[t-15], m.by.u) + w[t-16]
	}
	return w
}

// put writes the bytes of the state's words.
func (m *machine[W]) put(out []byte) {
	size := wordBytes[W]()
	for i := range out {
		out[i] = byte(m.state[i/size] >> (8 * (size - 1 - i%size)))
	}
}
