package impl

import "math/bits"

const (
	shaBlockBytes = 64
	shaSizeBytes  = 8
	idBytes       = 8
	hexDigits     = "0123456789abcdef"
)

type (
	shaState [8]uint32
	shaWords [64]uint32
)

var shaFirst = shaState{
	0x6a09e667, 0xbb67ae85, 0x3c6ef372, 0xa54ff53a,
	0x510e527f, 0x9b05688c, 0x1f83d9ab, 0x5be0cd19,
}

var shaRounds = shaWords{
	0x428a2f98, 0x71374491, 0xb5c0fbcf, 0xe9b5dba5, 0x3956c25b, 0x59f111f1, 0x923f82a4, 0xab1c5ed5,
	0xd807aa98, 0x12835b01, 0x243185be, 0x550c7dc3, 0x72be5d74, 0x80deb1fe, 0x9bdc06a7, 0xc19bf174,
	0xe49b69c1, 0xefbe4786, 0x0fc19dc6, 0x240ca1cc, 0x2de92c6f, 0x4a7484aa, 0x5cb0a9dc, 0x76f988da,
	0x983e5152, 0xa831c66d, 0xb00327c8, 0xbf597fc7, 0xc6e00bf3, 0xd5a79147, 0x06ca6351, 0x14292967,
	0x27b70a85, 0x2e1b2138, 0x4d2c6dfc, 0x53380d13, 0x650a7354, 0x766a0abb, 0x81c2c92e, 0x92722c85,
	0xa2bfe8a1, 0xa81a664b, 0xc24b8b70, 0xc76c51a3, 0xd192e819, 0xd6990624, 0xf40e3585, 0x106aa070,
	0x19a4c116, 0x1e376c08, 0x2748774c, 0x34b0bcb5, 0x391c0cb3, 0x4ed8aa4a, 0x5b9cca4f, 0x682e6ff3,
	0x748f82ee, 0x78a5636f, 0x84c87814, 0x8cc70208, 0x90befffa, 0xa4506ceb, 0xbef9a3f7, 0xc67178f2,
}

func Sha256(text string) string {
	if len(text) > MaxText {
		return ""
	}
	padded := shaPadded(text)
	state := shaFirst
	for at := 0; at < len(padded); at += shaBlockBytes {
		state = shaMixed(state, shaSchedule(padded[at:at+shaBlockBytes]))
	}
	return shaBytes(state)
}

// shaPadded puts a bit 1, noughts and the size in bits behind the text. From
// 56 bytes in the last block on, the size does not fit and takes one block more.
func shaPadded(text string) []byte {
	used := len(text) + 1 + shaSizeBytes
	blocks := (used + shaBlockBytes - 1) / shaBlockBytes
	out := make([]byte, blocks*shaBlockBytes)
	copy(out, text)
	out[len(text)] = 0x80
	size := uint64(len(text)) * 8
	for i := range shaSizeBytes {
		out[len(out)-1-i] = byte(size >> (8 * i))
	}
	return out
}

func shaSchedule(block []byte) shaWords {
	var w shaWords
	for i := range 16 {
		w[i] = uint32(block[4*i])<<24 | uint32(block[4*i+1])<<16 | uint32(block[4*i+2])<<8 | uint32(block[4*i+3])
	}
	for i := 16; i < len(w); i++ {
		low, high := w[i-15], w[i-2]
		s0 := bits.RotateLeft32(low, -7) ^ bits.RotateLeft32(low, -18) ^ low>>3
		s1 := bits.RotateLeft32(high, -17) ^ bits.RotateLeft32(high, -19) ^ high>>10
		w[i] = w[i-16] + s0 + w[i-7] + s1
	}
	return w
}

func shaMixed(state shaState, w shaWords) shaState {
	a, b, c, d := state[0], state[1], state[2], state[3]
	e, f, g, h := state[4], state[5], state[6], state[7]
	for i := range len(w) {
		s1 := bits.RotateLeft32(e, -6) ^ bits.RotateLeft32(e, -11) ^ bits.RotateLeft32(e, -25)
		choice := e&f ^ ^e&g
		t1 := h + s1 + choice + shaRounds[i] + w[i]
		s0 := bits.RotateLeft32(a, -2) ^ bits.RotateLeft32(a, -13) ^ bits.RotateLeft32(a, -22)
		majority := a&b ^ a&c ^ b&c
		h, g, f, e = g, f, e, d+t1
		d, c, b, a = c, b, a, t1+s0+majority
	}
	mixed := shaState{a, b, c, d, e, f, g, h}
	for i := range len(mixed) {
		mixed[i] += state[i]
	}
	return mixed
}

func shaBytes(state shaState) string {
	var out [32]byte
	for i, word := range state {
		out[4*i] = byte(word >> 24)
		out[4*i+1] = byte(word >> 16)
		out[4*i+2] = byte(word >> 8)
		out[4*i+3] = byte(word)
	}
	return string(out[:])
}

func IdOf(text string) string {
	digest := Sha256(text)
	if digest == "" {
		return ""
	}
	var out [2 * idBytes]byte
	for i := range idBytes {
		out[2*i] = hexDigits[digest[i]>>4]
		out[2*i+1] = hexDigits[digest[i]&15]
	}
	return string(out[:])
}

func IdOk(id string) bool {
	if len(id) != 2*idBytes {
		return false
	}
	for i := range len(id) {
		if !isDigit(id[i]) && (id[i] < 'a' || id[i] > 'f') {
			return false
		}
	}
	return true
}
