package sframe

import (
	"slices"

	"hailer/aes"
	"hailer/api"
	"hailer/ctr"
	"hailer/gcm"
	"hailer/mac"
	"hailer/suite"
)

// turner seals a text, or opens what was sealed, by a nonce and an aad.
type turner func(nonce [12]byte, aad, text []byte) ([]byte, api.Errno)

// lock is what a suite does of its own with keys of it: open undoes what seal did, or answers ErrTag.
type lock struct{ seal, open turner }

// lockOf is that of the keys, whose suite is by info.
func lockOf(k suite.Keys, info suite.Info) lock {
	switch k.Suite {
	case api.Gcm128, api.Gcm256:
		return lockOfGcm(k.Key)
	}
	return lockOfCtr(k.Key[:info.Enc], k.Key[info.Enc:], info.Tag)
}

// lockOfGcm is that of a key of a suite of Gcm.
func lockOfGcm(key []byte) lock {
	return lock{
		seal: func(nonce [12]byte, aad, text []byte) ([]byte, api.Errno) {
			return gcm.Seal(key, nonce, aad, text)
		},
		open: func(nonce [12]byte, aad, sealed []byte) ([]byte, api.Errno) {
			return gcm.Open(key, nonce, aad, sealed)
		},
	}
}

// lockOfCtr is that of a key of a suite of Ctr, of its encryption's part and its MAC's, with tags of so many bytes.
func lockOfCtr(enc, auth []byte, tagBytes int) lock {
	turn := func(nonce [12]byte, text []byte) ([]byte, api.Errno) {
		c, e := aes.New(enc)
		if e != api.OK {
			return nil, e
		}
		return ctr.Turn(c, firstCounter(nonce), text)
	}
	tagOf := func(nonce [12]byte, aad, turned []byte) []byte {
		lengths := counted(len(aad), len(turned), tagBytes)
		return mac.Mac(mac.H256, auth, lengths, nonce[:], aad, turned)[:tagBytes]
	}
	return lock{
		seal: func(nonce [12]byte, aad, text []byte) ([]byte, api.Errno) {
			turned, e := turn(nonce, text)
			if e != api.OK {
				return nil, e
			}
			return slices.Concat(turned, tagOf(nonce, aad, turned)), api.OK
		},
		open: func(nonce [12]byte, aad, sealed []byte) ([]byte, api.Errno) {
			end := len(sealed) - tagBytes
			if end < 0 || !mac.Same(tagOf(nonce, aad, sealed[:end]), sealed[end:]) {
				return nil, api.ErrTag
			}
			return turn(nonce, sealed[:end])
		},
	}
}

// firstCounter is the nonce's first counter: four bytes 0 behind it.
func firstCounter(nonce [12]byte) (counter [16]byte) {
	copy(counter[:], nonce[:])
	return counter
}

// counted are the numbers' bytes, eight each, the highest first. Without them the aad's last bytes could go for the text's first ones.
func counted(numbers ...int) (b []byte) {
	for _, n := range numbers {
		for left := 7; left >= 0; left-- {
			b = append(b, byte(uint64(n)>>(8*left)))
		}
	}
	return b
}
