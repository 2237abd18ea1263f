package tests

import (
	"crypto/sha256"
	"encoding/hex"
	"fmt"
	"strings"
	"testing"

	"loop.example/g00652/impl"
)

// The digests of FIPS 180-4's examples, and of texts at the edges of a block.
func TestSha256OfKnownTexts(t *testing.T) {
	for _, c := range []struct{ text, want string }{
		{"", "e3b0c44298fc1c149afbf4c8996fb92427ae41e4649b934ca495991b7852b855"},
		{"abc", "ba7816bf8f01cfea414140de5dae2223b00361a396177a9cb410ff61f20015ad"},
		{"abcdbcdecdefdefgefghfghighijhijkijkljklmklmnlmnomnopnopq", "248d6a61d20638b8e5c026930c3e6039a33ce45964ff2167f6ecedd419db06c1"},
		{strings.Repeat("a", 55), "9f4390f8d30c2dd92ec9f095b65e2b9ae9b0a925a5258e241c9f1e910f734318"},
		{strings.Repeat("a", 56), "b35439a4ac6f0948b6d6f9e3c6af0f5f590ce20f1bde7090ef7970686ec6738a"},
		{strings.Repeat("a", 63), "7d3e74a05d7db15bce4ad9ec0658ea98e3f06eeecf16b4c6fff2da457ddc2f34"},
		{strings.Repeat("a", 64), "ffe054fe7ae0cb6dc65c3af9b61d5209f439851db43d0ba5997337df154668eb"},
	} {
		if got := hex.EncodeToString([]byte(impl.Sha256(c.text))); got != c.want {
			t.Errorf("%q: Sha256 tells %s", c.text, got)
		}
		if got := impl.IdOf(c.text); got != c.want[:16] {
			t.Errorf("%q: IdOf tells %s", c.text, got)
		}
	}
}

func TestSha256OfEachSize(t *testing.T) {
	for size := range impl.MaxText + 1 {
		text := make([]byte, size)
		for i := range text {
			text[i] = byte(i*31 + size)
		}
		want := sha256.Sum256(text)
		if got := impl.Sha256(string(text)); got != string(want[:]) {
			t.Errorf("%d bytes: Sha256 tells %x, not %x", size, got, want)
		}
		id := impl.IdOf(string(text))
		if id != fmt.Sprintf("%x", want[:8]) || !impl.IdOk(id) {
			t.Errorf("%d bytes: IdOf tells %s, of %x", size, id, want)
		}
	}
}

func TestSha256OfEachByte(t *testing.T) {
	for c := range 256 {
		for _, size := range []int{1, 55, 56, 64, 120} {
			text := strings.Repeat(string([]byte{byte(c)}), size)
			want := sha256.Sum256([]byte(text))
			if impl.Sha256(text) != string(want[:]) || impl.IdOf(text) != fmt.Sprintf("%x", want[:8]) {
				t.Errorf("%d times byte %d: Sha256 tells %x, IdOf %s", size, c, impl.Sha256(text), impl.IdOf(text))
			}
		}
	}
}

func TestDigestsRefuseLongTexts(t *testing.T) {
	if longest := strings.Repeat("x", 2000); len(impl.Sha256(longest)) != 32 || len(impl.IdOf(longest)) != 16 {
		t.Errorf("2000 bytes: Sha256 tells %x, IdOf %s", impl.Sha256(longest), impl.IdOf(longest))
	}
	for _, size := range []int{2001, 2047, 2048, 100000} {
		text := strings.Repeat("x", size)
		if impl.Sha256(text) != "" || impl.IdOf(text) != "" {
			t.Errorf("%d bytes: Sha256 tells %x, IdOf %q", size, impl.Sha256(text), impl.IdOf(text))
		}
	}
}

func TestIdOkOfEachSize(t *testing.T) {
	for size := range 70 {
		id := strings.Repeat("a", size)
		if got := impl.IdOk(id); got != (size == 16) {
			t.Errorf("%d digits: IdOk tells %v", size, got)
		}
	}
	for _, id := range []string{"0123456789abcdef", "fedcba9876543210", "0000000000000000", "ffffffffffffffff"} {
		if !impl.IdOk(id) || impl.IdOk(id[1:]) || impl.IdOk(id+"0") || impl.IdOk(" "+id) || impl.IdOk(id+"\n") {
			t.Errorf("%s: IdOk is wrong of it, without its first digit, or with one byte more", id)
		}
	}
}

func TestIdOkOfEachByteAtEachPlace(t *testing.T) {
	for c := range 256 {
		want := strings.Contains("0123456789abcdef", string([]byte{byte(c)}))
		for place := range 16 {
			id := []byte("0123456789abcdef")
			id[place] = byte(c)
			if got := impl.IdOk(string(id)); got != want {
				t.Errorf("byte %d at %d: IdOk tells %v", c, place, got)
			}
		}
	}
}

func TestDigestsAnswerTheSameAgain(t *testing.T) {
	digest, id := impl.Sha256("abc"), impl.IdOf("abc")
	impl.Sha256(strings.Repeat("x", 2001))
	impl.Sha256(strings.Repeat("x", 1999))
	if impl.Sha256("abc") != digest || impl.IdOf("abc") != id {
		t.Errorf("abc: Sha256 tells %x, then %x", digest, impl.Sha256("abc"))
	}
}
