package broad

import (
	"bytes"
	"crypto/sha512"
	"encoding/hex"
	"math/big"
	"math/rand/v2"
	"slices"
	"strings"
	"testing"
)

// edges are the lengths beside which the noughts and the count of bits go into the same block, or into one more.
var edges = []int{0, 1, 3, 63, 64, 110, 111, 112, 113, 119, 120, 126, 127, 128, 129, 238, 239, 240, 241, 255, 256, 257, 367, 368, 384}

// strange are bytes without a pattern; the same in every run.
func strange(n int) []byte {
	r := rand.New(rand.NewPCG(6, 7))
	b := make([]byte, n)
	for i := range b {
		b[i] = byte(r.Uint32())
	}
	return b
}

// want is the sum by other means than the package's.
func want(b []byte) []byte {
	s := sha512.Sum512(b)
	return s[:]
}

// digits are bytes that a test spells out.
func digits(t *testing.T, s string) []byte {
	t.Helper()
	b, err := hex.DecodeString(s)
	if err != nil {
		t.Fatal(err)
	}
	return b
}

// root is the greatest number whose power of a degree isn't above n.
func root(n *big.Int, degree int64) *big.Int {
	low, high := big.NewInt(0), new(big.Int).Add(n, big.NewInt(1))
	for {
		middle := new(big.Int).Rsh(new(big.Int).Add(low, high), 1)
		if middle.Cmp(low) == 0 {
			return low
		}
		if new(big.Int).Exp(middle, big.NewInt(degree), nil).Cmp(n) > 0 {
			high = middle
		} else {
			low = middle
		}
	}
}

// behind is the first 64 bits behind the point of a root of n.
func behind(n, degree int64) uint64 {
	shifted := new(big.Int).Lsh(big.NewInt(n), uint(64*degree))
	return new(big.Int).And(root(shifted, degree), new(big.Int).SetUint64(1<<64-1)).Uint64()
}

func primes(n int) []int64 {
	var list []int64
	for p := int64(2); len(list) < n; p++ {
		if !slices.ContainsFunc(list, func(q int64) bool { return p%q == 0 }) {
			list = append(list, p)
		}
	}
	return list
}

// P6.1

func TestConstants(t *testing.T) {
	for i, p := range primes(80) {
		if w := behind(p, 3); constants[i] != w {
			t.Errorf("constant %d is %x; want %x", i, constants[i], w)
		}
	}
	for i, p := range primes(8) {
		if w := behind(p, 2); atFirst[i] != w {
			t.Errorf("word %d at first is %x; want %x", i, atFirst[i], w)
		}
	}
}

func TestTurned(t *testing.T) {
	for n := range 64 {
		for _, w := range []uint64{1, 1 << 63, 0x0123456789abcdef, 1<<64 - 1} {
			if x := turned(w, n); x != w>>n|w<<(64-n) {
				t.Errorf("turned(%x, %d) = %x", w, n, x)
			}
		}
	}
}

const sumOfABC = "ddaf35a193617abacc417349ae20413112e6fa4e89a97ea20a9eeee64b55d39a2192992a274fc1a836ba3c23a3feebbd454d4423643ce80e2a9ac94fa54ca49f"

func TestSumExamples(t *testing.T) {
	for _, x := range []struct{ text, sum string }{
		{"", "cf83e1357eefb8bdf1542850d66d8007d620e4050b5715dc83f4a921d36ce9ce47d0d13c5d85f2b0ff8318d2877eec2f63b931bd47417a81a538327af927da3e"},
		{"abc", sumOfABC},
		{"abcdbcdecdefdefgefghfghighijhijkijkljklmklmnlmnomnopnopq", "204a8fc6dda82f0a0ced7beb8e08a41657c16ef468b228a8279be331a703c33596fd15c13b1b07f9aa1d3bea57789ca031ad85c7a71dd70354ec631238ca3445"},
		{"abcdefghbcdefghicdefghijdefghijkefghijklfghijklmghijklmnhijklmnoijklmnopjklmnopqklmnopqrlmnopqrsmnopqrstnopqrstu", "8e959b75dae313da8cf4f72814fc143f8f7779c6eb9f7fa17299aeadb6889018501d289e4900f7e4331b99dec4b5433ac7d329eeb6dd26545e96e55b874be909"},
		{strings.Repeat("a", 1000000), "e718483d0ce769644e2e42c7bc15b4638e1f98b13b2044285632a803afa973ebde0ff244877ea60a4cb0432ce577c31beb009c5c2c49aa2e4eadb217ad8cc09b"},
	} {
		if s := Sum([]byte(x.text)); !bytes.Equal(s, digits(t, x.sum)) {
			t.Errorf("Sum of %d bytes %.8q = %x; want %s", len(x.text), x.text, s, x.sum)
		}
	}
}

func TestSumOfNothing(t *testing.T) {
	for _, b := range [][]byte{nil, {}} {
		if s := Sum(b); !bytes.Equal(s, want(nil)) {
			t.Errorf("Sum(%#v) = %x", b, s)
		}
	}
}

func TestSumOfEachLength(t *testing.T) {
	for _, all := range [][]byte{strange(900), make([]byte, 900), bytes.Repeat([]byte{0xff}, 900), bytes.Repeat([]byte{0x80}, 900)} {
		for n := range len(all) + 1 {
			if s := Sum(all[:n]); !bytes.Equal(s, want(all[:n])) || len(s) != 64 {
				t.Errorf("Sum of %d bytes %x.. = %x", n, all[:min(n, 4)], s)
			}
		}
	}
}

func TestSumOfEachByte(t *testing.T) {
	for c := range 256 {
		for _, n := range edges {
			b := bytes.Repeat([]byte{byte(c)}, n)
			if s := Sum(b); !bytes.Equal(s, want(b)) {
				t.Errorf("Sum of %d bytes %x = %x", n, c, s)
			}
		}
	}
}

func TestSumOfEachBit(t *testing.T) {
	for _, n := range []int{111, 112, 128, 256} {
		for i := range 8 * n {
			b := make([]byte, n)
			b[i/8] = 1 << (i % 8)
			if s := Sum(b); !bytes.Equal(s, want(b)) {
				t.Errorf("Sum of %d bytes with the bit %d = %x", n, i, s)
			}
		}
	}
}

func TestSumOfManyBlocks(t *testing.T) {
	all := strange(128*3000 + 400)
	for _, blocks := range []int{5, 17, 255, 256, 1024, 3000} {
		for _, more := range edges {
			b := all[:128*blocks+more]
			if s := Sum(b); !bytes.Equal(s, want(b)) {
				t.Errorf("Sum of %d bytes = %x", len(b), s)
			}
		}
	}
}

// More than 2^32 bits: their count needs more than four of its sixteen bytes.
func TestSumOfManyBits(t *testing.T) {
	piece := strange(1 << 20)
	h, other := New(), sha512.New()
	for range 1 << 9 {
		h.Write(piece)
		other.Write(piece)
	}
	h.Write(piece[:3])
	other.Write(piece[:3])
	if s := h.Sum(); !bytes.Equal(s, other.Sum(nil)) || h.Len() != 1<<29+3 {
		t.Errorf("Sum of %d bytes = %x", h.Len(), s)
	}
}

// The count's own block, of lengths that no test can write out.
func TestEndOfAnyLength(t *testing.T) {
	for _, length := range []int{0, 128, 1 << 31, 1 << 40, 1<<60 + 256, 1 << 61, 3<<61 + 1<<58, 1<<63 - 128} {
		places := new(big.Int).Mul(big.NewInt(int64(length)), big.NewInt(8))
		last := make([]byte, 128)
		last[0] = 0x80
		places.FillBytes(last[112:])
		other := state{atFirst}
		other.take(last)
		h := fresh()
		h.length = length
		if s := h.Sum(); !bytes.Equal(s, other.bytes()) {
			t.Errorf("the end of %d bytes brings %x; want %x", length, s, other.bytes())
		}
	}
}

// Rule 4, and what an answer shares with others.
func TestSumSharesNothing(t *testing.T) {
	for _, n := range edges {
		b := strange(n)
		first, second := Sum(b), Sum(b)
		if !bytes.Equal(b, strange(n)) {
			t.Fatalf("Sum changed its %d bytes", n)
		}
		clear(first[:cap(first)])
		if s := Sum(b); !bytes.Equal(s, want(b)) || !bytes.Equal(second, want(b)) {
			t.Errorf("Sum of %d bytes, once the last answer was written into, = %x", n, s)
		}
		if !bytes.Equal(b, strange(n)) {
			t.Errorf("an answer shares memory with its %d bytes", n)
		}
	}
}

// What stands behind the bytes in the same memory is neither read nor changed.
func TestBytesBehindAreLeftAlone(t *testing.T) {
	for _, n := range edges {
		all := strange(n + 300)
		h := New()
		h.Write(all[:n])
		if !holds(h, all[:n]) || !bytes.Equal(Sum(all[:n]), want(all[:n])) {
			t.Errorf("of %d bytes with others behind: Len %d, sum %x", n, h.Len(), h.Sum())
		}
		if !bytes.Equal(all, strange(n+300)) {
			t.Errorf("bytes behind the %d that were handed in are changed", n)
		}
	}
}

// P6.2

// holds tells whether a hash is one of these bytes.
func holds(h *Hash, b []byte) bool {
	return h.Len() == len(b) && bytes.Equal(h.Sum(), want(b)) && h.Len() == len(b)
}

func TestNew(t *testing.T) {
	for range 2 {
		h := New()
		if h == nil {
			t.Fatal("New() = nil")
		}
		if !holds(h, nil) {
			t.Fatalf("New: %d bytes, sum %x", h.Len(), h.Sum())
		}
		h.Write([]byte("abc")) // which the next New must not have
	}
}

func TestWriteExample(t *testing.T) {
	h := New()
	h.Write([]byte("abc"))
	if s := h.Sum(); !bytes.Equal(s, digits(t, sumOfABC)) || h.Len() != 3 {
		t.Errorf("%d bytes, sum %x", h.Len(), s)
	}
}

func TestWriteOfEachLength(t *testing.T) {
	all := strange(600)
	for n := range len(all) + 1 {
		h := New()
		h.Write(all[:n])
		for range 3 { // a sum changes nothing that a later one could tell
			if !holds(h, all[:n]) {
				t.Fatalf("of %d bytes: Len %d, sum %x", n, h.Len(), h.Sum())
			}
		}
	}
}

func TestWriteOfNothing(t *testing.T) {
	all := strange(400)
	for _, n := range edges {
		h := New()
		h.Write(nil)
		h.Write(all[:n])
		h.Write(nil)
		h.Write([]byte{})
		if !holds(h, all[:n]) {
			t.Errorf("of %d bytes, and none: Len %d, sum %x", n, h.Len(), h.Sum())
		}
	}
}

// A sum that is asked for between two pieces, twice in a row, and behind the last one.
func TestSumBetweenPieces(t *testing.T) {
	all := strange(800)
	for _, first := range edges {
		for _, second := range edges {
			h := New()
			h.Sum()
			h.Write(all[:first])
			if !holds(h, all[:first]) || !holds(h, all[:first]) {
				t.Fatalf("behind %d bytes: Len %d, sum %x", first, h.Len(), h.Sum())
			}
			h.Write(all[first : first+second])
			if !holds(h, all[:first+second]) || !holds(h, all[:first+second]) {
				t.Fatalf("behind %d and %d bytes: Len %d, sum %x", first, second, h.Len(), h.Sum())
			}
		}
	}
}

func TestHashesStandApart(t *testing.T) {
	all := strange(600)
	one, two := New(), New()
	for i := range 200 {
		one.Write(all[i : i+1])
		two.Write(all[3*i : 3*i+3])
		if !holds(one, all[:i+1]) || !holds(two, all[:3*i+3]) {
			t.Fatalf("behind %d pieces of each", i+1)
		}
	}
}

func TestWriteKeepsNothing(t *testing.T) {
	for _, n := range edges {
		b := strange(n)
		h := New()
		h.Write(b)
		if !bytes.Equal(b, strange(n)) {
			t.Fatalf("Write changed its %d bytes", n)
		}
		clear(b)
		if !holds(h, strange(n)) {
			t.Errorf("a hash shares memory with the %d bytes that were written", n)
		}
		first := h.Sum()
		kept := bytes.Clone(first)
		h.Write([]byte{1})
		if second := h.Sum(); !bytes.Equal(first, kept) {
			t.Errorf("the sum of %d bytes became %x, with that of one more", n, second)
		}
		clear(first[:cap(first)])
		if !holds(h, append(strange(n), 1)) {
			t.Errorf("a hash of %d bytes shares memory with its sum", n+1)
		}
	}
}

// Of a hash that is nil, or plain, nothing.
func TestHashesThatNoCallMade(t *testing.T) {
	for name, h := range map[string]*Hash{"nil": nil, "plain": {}, "new": new(Hash)} {
		for _, n := range []int{0, 1, 128, 300} {
			h.Write(strange(n))
			if l, s := h.Len(), h.Sum(); l != 0 || len(s) != 0 {
				t.Errorf("%s: behind %d bytes Len %d, sum %x", name, n, l, s)
			}
		}
		if h != nil && *h != (Hash{}) {
			t.Errorf("%s: something is kept", name)
		}
	}
}

// P6.3

func TestTwoPieces(t *testing.T) {
	all := strange(520)
	for _, n := range append(slices.Clone(edges), len(all)) {
		for cut := range n + 1 {
			h := New()
			h.Write(all[:cut])
			if h.Len() != cut {
				t.Fatalf("Len behind %d bytes = %d", cut, h.Len())
			}
			h.Write(all[cut:n])
			if !holds(h, all[:n]) {
				t.Fatalf("of %d and %d bytes: Len %d, sum %x", cut, n-cut, h.Len(), h.Sum())
			}
		}
	}
}

// Three pieces, whose second begins and ends within a block, at its end, and behind several blocks.
func TestThreePieces(t *testing.T) {
	all := strange(3 * 400)
	for _, first := range edges {
		for _, second := range edges {
			for _, third := range edges {
				h := New()
				h.Write(all[:first])
				h.Write(all[first : first+second])
				h.Write(all[first+second : first+second+third])
				if n := first + second + third; !holds(h, all[:n]) {
					t.Fatalf("of %d, %d and %d bytes: Len %d, sum %x", first, second, third, h.Len(), h.Sum())
				}
			}
		}
	}
}

func TestPiecesOfEachLength(t *testing.T) {
	all := strange(1400)
	for n := 1; n <= 520; n++ {
		h, asked := New(), New()
		length := 0
		for piece := range slices.Chunk(all, n) {
			h.Write(piece)
			asked.Write(piece)
			length += len(piece)
			if h.Len() != length || !holds(asked, all[:length]) {
				t.Fatalf("pieces of %d bytes, behind %d: Len %d, sum %x", n, length, asked.Len(), asked.Sum())
			}
		}
		if !holds(h, all) {
			t.Fatalf("pieces of %d bytes: Len %d, sum %x", n, h.Len(), h.Sum())
		}
	}
}

func TestPiecesOfAnyLength(t *testing.T) {
	r := rand.New(rand.NewPCG(8, 9))
	all := strange(6000)
	for range 300 {
		h := New()
		var cuts []int
		for at := 0; at < len(all); {
			n := min(r.IntN(1<<r.IntN(11)), len(all)-at)
			h.Write(all[at : at+n])
			at += n
			cuts = append(cuts, n)
			if h.Len() != at || r.IntN(4) == 0 && !holds(h, all[:at]) {
				t.Fatalf("pieces %v: Len %d, sum %x", cuts, h.Len(), h.Sum())
			}
		}
		if !holds(h, all) || !bytes.Equal(h.Sum(), Sum(all)) {
			t.Fatalf("pieces %v: Len %d, sum %x", cuts, h.Len(), h.Sum())
		}
	}
}
