package digest

import (
	"bytes"
	"crypto/sha256"
	"encoding/hex"
	"math/big"
	"math/rand/v2"
	"slices"
	"strings"
	"testing"
)

// edges are the lengths beside which the noughts and the count of bits go into the same block, or into one more.
var edges = []int{0, 1, 3, 54, 55, 56, 57, 62, 63, 64, 65, 111, 118, 119, 120, 121, 127, 128, 129, 183, 184, 191, 192, 193}

// strange are bytes without a pattern; the same in every run.
func strange(n int) []byte {
	r := rand.New(rand.NewPCG(5, 6))
	b := make([]byte, n)
	for i := range b {
		b[i] = byte(r.Uint32())
	}
	return b
}

// want is the sum by other means than the package's.
func want(b []byte) []byte {
	s := sha256.Sum256(b)
	return s[:]
}

// digits are bytes that a test spells out.
func digits(t *testing.T, s string) []byte {
	t.Helper()
	b, err := hex.DecodeString(s)
	if err != nil {
		t.Fatal(err)
	}
	return b
}

// root is the least number whose power of a degree is above n, less 1.
func root(n *big.Int, degree int64) *big.Int {
	low, high := big.NewInt(0), new(big.Int).Add(n, big.NewInt(1))
	for {
		middle := new(big.Int).Rsh(new(big.Int).Add(low, high), 1)
		if middle.Cmp(low) == 0 {
			return low
		}
		if new(big.Int).Exp(middle, big.NewInt(degree), nil).Cmp(n) > 0 {
			high = middle
		} else {
			low = middle
		}
	}
}

// behind is the first 32 bits behind the point of a root of n.
func behind(n, degree int64) uint32 {
	shifted := new(big.Int).Lsh(big.NewInt(n), uint(32*degree))
	return uint32(new(big.Int).And(root(shifted, degree), big.NewInt(1<<32-1)).Uint64())
}

func primes(n int) []int64 {
	var list []int64
	for p := int64(2); len(list) < n; p++ {
		if !slices.ContainsFunc(list, func(q int64) bool { return p%q == 0 }) {
			list = append(list, p)
		}
	}
	return list
}

// P5.1

func TestConstants(t *testing.T) {
	for i, p := range primes(64) {
		if w := behind(p, 3); constants[i] != w {
			t.Errorf("constant %d is %x; want %x", i, constants[i], w)
		}
	}
	for i, p := range primes(8) {
		if w := behind(p, 2); atFirst[i] != w {
			t.Errorf("word %d at first is %x; want %x", i, atFirst[i], w)
		}
	}
}

func TestSumExamples(t *testing.T) {
	for _, x := range []struct{ text, sum string }{
		{"", "e3b0c44298fc1c149afbf4c8996fb92427ae41e4649b934ca495991b7852b855"},
		{"abc", "ba7816bf8f01cfea414140de5dae2223b00361a396177a9cb410ff61f20015ad"},
		{"abcdbcdecdefdefgefghfghighijhijkijkljklmklmnlmnomnopnopq", "248d6a61d20638b8e5c026930c3e6039a33ce45964ff2167f6ecedd419db06c1"},
		{"abcdefghbcdefghicdefghijdefghijkefghijklfghijklmghijklmnhijklmnoijklmnopjklmnopqklmnopqrlmnopqrsmnopqrstnopqrstu", "cf5b16a778af8380036ce59e7b0492370b249b11e8f07a51afac45037afee9d1"},
		{strings.Repeat("a", 1000000), "cdc76e5c9914fb9281a1c7e284d73e67f1809a48a497200e046d39ccc7112cd0"},
		{"\xbd", "68325720aabd7c82f30f554b313d0570c95accbb7dc4b5aae11204c08ffe732b"},
		{"\xc9\x8c\x8e\x55", "7abc22c0ae5af26ce93dbb94433a0e0b2e119d014f8e7f65bd56c61ccccd9504"},
		{strings.Repeat("\x00", 55), "02779466cdec163811d078815c633f21901413081449002f24aa3e80f0b88ef7"},
		{strings.Repeat("\x00", 56), "d4817aa5497628e7c77e6b606107042bbba3130888c5f47a375e6179be789fbb"},
		{strings.Repeat("\x00", 64), "f5a5fd42d16a20302798ef6ed309979b43003d2320d9f0e8ea9831a92759fb4b"},
	} {
		if s := Sum([]byte(x.text)); !bytes.Equal(s, digits(t, x.sum)) {
			t.Errorf("Sum of %d bytes %.8q = %x; want %s", len(x.text), x.text, s, x.sum)
		}
	}
}

func TestSumOfNothing(t *testing.T) {
	for _, b := range [][]byte{nil, {}} {
		if s := Sum(b); !bytes.Equal(s, want(nil)) {
			t.Errorf("Sum(%#v) = %x", b, s)
		}
	}
}

func TestSumOfEachLength(t *testing.T) {
	for _, all := range [][]byte{strange(700), make([]byte, 700), bytes.Repeat([]byte{0xff}, 700), bytes.Repeat([]byte{0x80}, 700)} {
		for n := range len(all) + 1 {
			if s := Sum(all[:n]); !bytes.Equal(s, want(all[:n])) || len(s) != 32 {
				t.Errorf("Sum of %d bytes %x.. = %x", n, all[:min(n, 4)], s)
			}
		}
	}
}

func TestSumOfEachByte(t *testing.T) {
	for c := range 256 {
		for _, n := range edges {
			b := bytes.Repeat([]byte{byte(c)}, n)
			if s := Sum(b); !bytes.Equal(s, want(b)) {
				t.Errorf("Sum of %d bytes %x = %x", n, c, s)
			}
		}
	}
}

func TestSumOfEachBit(t *testing.T) {
	for _, n := range []int{55, 56, 64, 128} {
		for i := range 8 * n {
			b := make([]byte, n)
			b[i/8] = 1 << (i % 8)
			if s := Sum(b); !bytes.Equal(s, want(b)) {
				t.Errorf("Sum of %d bytes with the bit %d = %x", n, i, s)
			}
		}
	}
}

func TestSumOfManyBlocks(t *testing.T) {
	all := strange(64*5000 + 130)
	for _, blocks := range []int{5, 17, 255, 256, 1024, 5000} {
		for _, more := range edges[:19] {
			b := all[:64*blocks+more]
			if s := Sum(b); !bytes.Equal(s, want(b)) {
				t.Errorf("Sum of %d bytes = %x", len(b), s)
			}
		}
	}
}

// More than 2^32 bits: their count needs more than four of its eight bytes.
func TestSumOfManyBits(t *testing.T) {
	piece := strange(1 << 20)
	h, other := New(), sha256.New()
	for range 1 << 9 {
		h.Write(piece)
		other.Write(piece)
	}
	h.Write(piece[:3])
	other.Write(piece[:3])
	if s := h.Sum(); !bytes.Equal(s, other.Sum(nil)) || h.Len() != 1<<29+3 {
		t.Errorf("Sum of %d bytes = %x", h.Len(), s)
	}
}

// Rule 4, and what an answer shares with others.
func TestSumSharesNothing(t *testing.T) {
	for _, n := range edges {
		b := strange(n)
		first := Sum(b)
		if !bytes.Equal(b, strange(n)) {
			t.Fatalf("Sum changed its %d bytes", n)
		}
		clear(first[:cap(first)])
		if s := Sum(b); !bytes.Equal(s, want(b)) {
			t.Errorf("Sum of %d bytes, once the last answer was written into, = %x", n, s)
		}
		if !bytes.Equal(b, strange(n)) {
			t.Errorf("an answer shares memory with its %d bytes", n)
		}
	}
}

// P5.2

// holds tells whether a hash is one of these bytes.
func holds(h *Hash, b []byte) bool {
	return h.Len() == len(b) && bytes.Equal(h.Sum(), want(b)) && h.Len() == len(b)
}

func TestNew(t *testing.T) {
	for range 2 {
		h := New()
		if h == nil {
			t.Fatal("New() = nil")
		}
		if !holds(h, nil) {
			t.Fatalf("New: %d bytes, sum %x", h.Len(), h.Sum())
		}
		h.Write([]byte("abc")) // which the next New must not have
	}
}

func TestWriteExample(t *testing.T) {
	h := New()
	h.Write([]byte("abc"))
	if s := h.Sum(); !bytes.Equal(s, digits(t, "ba7816bf8f01cfea414140de5dae2223b00361a396177a9cb410ff61f20015ad")) || h.Len() != 3 {
		t.Errorf("%d bytes, sum %x", h.Len(), s)
	}
}

func TestWriteOfEachLength(t *testing.T) {
	all := strange(300)
	for n := range len(all) + 1 {
		h := New()
		h.Write(all[:n])
		for range 3 { // a sum changes nothing that a later one could tell
			if !holds(h, all[:n]) {
				t.Fatalf("of %d bytes: Len %d, sum %x", n, h.Len(), h.Sum())
			}
		}
	}
}

func TestWriteOfNothing(t *testing.T) {
	all := strange(200)
	for _, n := range edges {
		h := New()
		h.Write(nil)
		h.Write(all[:n])
		h.Write(nil)
		h.Write([]byte{})
		if !holds(h, all[:n]) {
			t.Errorf("of %d bytes, and none: Len %d, sum %x", n, h.Len(), h.Sum())
		}
	}
}

// A sum that is asked for between two pieces, twice in a row, and behind the last one.
func TestSumBetweenPieces(t *testing.T) {
	all := strange(400)
	for _, first := range edges {
		for _, second := range edges {
			h := New()
			h.Sum()
			h.Write(all[:first])
			if !holds(h, all[:first]) || !holds(h, all[:first]) {
				t.Fatalf("behind %d bytes: Len %d, sum %x", first, h.Len(), h.Sum())
			}
			h.Write(all[first : first+second])
			if !holds(h, all[:first+second]) || !holds(h, all[:first+second]) {
				t.Fatalf("behind %d and %d bytes: Len %d, sum %x", first, second, h.Len(), h.Sum())
			}
		}
	}
}

func TestHashesStandApart(t *testing.T) {
	all := strange(300)
	one, two := New(), New()
	for i := range 100 {
		one.Write(all[i : i+1])
		two.Write(all[2*i : 2*i+2])
		if !holds(one, all[:i+1]) || !holds(two, all[:2*i+2]) {
			t.Fatalf("behind %d pieces of each", i+1)
		}
	}
}

func TestWriteKeepsNothing(t *testing.T) {
	for _, n := range edges {
		b := strange(n)
		h := New()
		h.Write(b)
		if !bytes.Equal(b, strange(n)) {
			t.Fatalf("Write changed its %d bytes", n)
		}
		clear(b)
		if !holds(h, strange(n)) {
			t.Errorf("a hash shares memory with the %d bytes that were written", n)
		}
		first := h.Sum()
		kept := bytes.Clone(first)
		h.Write([]byte{1})
		if second := h.Sum(); !bytes.Equal(first, kept) {
			t.Errorf("the sum of %d bytes became %x, with that of one more", n, second)
		}
		clear(first[:cap(first)])
		if !holds(h, append(strange(n), 1)) {
			t.Errorf("a hash of %d bytes shares memory with its sum", n+1)
		}
	}
}

// Of a hash that is nil, or plain, nothing.
func TestHashesThatNoCallMade(t *testing.T) {
	for name, h := range map[string]*Hash{"nil": nil, "plain": {}, "new": new(Hash)} {
		for _, n := range []int{0, 1, 64, 200} {
			h.Write(strange(n))
			if l, s := h.Len(), h.Sum(); l != 0 || len(s) != 0 {
				t.Errorf("%s: behind %d bytes Len %d, sum %x", name, n, l, s)
			}
		}
		if h != nil && *h != (Hash{}) {
			t.Errorf("%s: something is kept", name)
		}
	}
}

// P5.3

func TestTwoPieces(t *testing.T) {
	all := strange(260)
	for _, n := range append(edges, len(all)) {
		for cut := range n + 1 {
			h := New()
			h.Write(all[:cut])
			if h.Len() != cut {
				t.Fatalf("Len behind %d bytes = %d", cut, h.Len())
			}
			h.Write(all[cut:n])
			if !holds(h, all[:n]) {
				t.Fatalf("of %d and %d bytes: Len %d, sum %x", cut, n-cut, h.Len(), h.Sum())
			}
		}
	}
}

// Three pieces, whose second begins and ends within a block, at its end, and behind several blocks.
func TestThreePieces(t *testing.T) {
	all := strange(3 * 200)
	for _, first := range edges {
		for _, second := range edges {
			for _, third := range edges {
				h := New()
				h.Write(all[:first])
				h.Write(all[first : first+second])
				h.Write(all[first+second : first+second+third])
				if n := first + second + third; !holds(h, all[:n]) {
					t.Fatalf("of %d, %d and %d bytes: Len %d, sum %x", first, second, third, h.Len(), h.Sum())
				}
			}
		}
	}
}

func TestPiecesOfEachLength(t *testing.T) {
	all := strange(1000)
	for n := 1; n <= 300; n++ {
		h, asked := New(), New()
		length := 0
		for piece := range slices.Chunk(all, n) {
			h.Write(piece)
			asked.Write(piece)
			length += len(piece)
			if h.Len() != length || !holds(asked, all[:length]) {
				t.Fatalf("pieces of %d bytes, behind %d: Len %d, sum %x", n, length, asked.Len(), asked.Sum())
			}
		}
		if !holds(h, all) {
			t.Fatalf("pieces of %d bytes: Len %d, sum %x", n, h.Len(), h.Sum())
		}
	}
}

func TestPiecesOfAnyLength(t *testing.T) {
	r := rand.New(rand.NewPCG(7, 8))
	all := strange(4000)
	for range 300 {
		h := New()
		var cuts []int
		for at := 0; at < len(all); {
			n := min(r.IntN(1<<r.IntN(10)), len(all)-at)
			h.Write(all[at : at+n])
			at += n
			cuts = append(cuts, n)
			if r.IntN(4) == 0 && !holds(h, all[:at]) {
				t.Fatalf("pieces %v: Len %d, sum %x", cuts, h.Len(), h.Sum())
			}
		}
		if !holds(h, all) || !bytes.Equal(h.Sum(), Sum(all)) {
			t.Fatalf("pieces %v: Len %d, sum %x", cuts, h.Len(), h.Sum())
		}
	}
}
