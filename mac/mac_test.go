package mac

import (
	"bytes"
	"crypto/hmac"
	"crypto/sha256"
	"encoding/hex"
	"math/rand/v2"
	"slices"
	"strings"
	"testing"
)

// keyLengths are lengths of keys: none, some, those beside a block's end, and many.
var keyLengths = []int{0, 1, 2, 20, 31, 32, 33, 55, 56, 62, 63, 64, 65, 66, 96, 127, 128, 129, 131, 200, 1000, 5000}

// lengths are lengths of what is summed: beside those where SHA-256 needs one more block, behind a key's.
var lengths = []int{0, 1, 3, 28, 54, 55, 56, 57, 63, 64, 65, 119, 120, 127, 128, 129, 300}

// strange are bytes without a pattern; the same in every run, others for each seed.
func strange(seed uint64, n int) []byte {
	r := rand.New(rand.NewPCG(7, seed))
	b := make([]byte, n)
	for i := range b {
		b[i] = byte(r.Uint32())
	}
	return b
}

// want is the sum by other means than the package's.
func want(key []byte, parts ...[]byte) []byte {
	h := hmac.New(sha256.New, key)
	for _, part := range parts {
		h.Write(part)
	}
	return h.Sum(nil)
}

// digits are bytes that a test spells out.
func digits(t *testing.T, s string) []byte {
	t.Helper()
	b, err := hex.DecodeString(s)
	if err != nil {
		t.Fatal(err)
	}
	return b
}

// P7.1

func TestSumExamples(t *testing.T) {
	rising := make([]byte, 25)
	for i := range rising {
		rising[i] = byte(i + 1)
	}
	long := strings.Repeat("\xaa", 131)
	for _, x := range []struct{ key, text, sum string }{
		{"Jefe", "what do ya want for nothing?", "5bdcc146bf60754e6a042426089575c75a003f089d2739839dec58b964ec3843"},
		{strings.Repeat("\x0b", 20), "Hi There", "b0344c61d8db38535ca8afceaf0bf12b881dc200c9833da726e9376c2e32cff7"},
		{strings.Repeat("\xaa", 20), strings.Repeat("\xdd", 50), "773ea91e36800e46854db8ebd09181a72959098b3ef8c122d9635514ced565fe"},
		{string(rising), strings.Repeat("\xcd", 50), "82558a389a443c0ea4cc819899f2083a85f0faa3e578f8077a2e3ff46729665b"},
		{long, "Test Using Larger Than Block-Size Key - Hash Key First", "60e431591ee0b67f0d8a26aacbf5b77f8e0bc6213728c5140546040f0ee37f54"},
		{long, "This is a test using a larger than block-size key and a larger than block-size data. The key needs to be hashed before being used by the HMAC algorithm.", "9b09ffa71b942fcb27635fbcd5b0e944bfdc63644f0713938a7f51535c3a35e2"},
		{"", "", "b613679a0814d9ec772f95d778c35fc5ff1697c493715653c6c712144292c5ad"},
		{"key", "The quick brown fox jumps over the lazy dog", "f7bc83f430538424b13298e6aa6fb143ef4d59a14946175997479dbc2d1a3cd8"},
	} {
		if s := Sum([]byte(x.key), []byte(x.text)); !bytes.Equal(s, digits(t, x.sum)) {
			t.Errorf("Sum under %.8q of %.8q = %x; want %s", x.key, x.text, s, x.sum)
		}
	}
}

// The words of the chapter, spelt out: the key's block with one mask, and the sum of it with the other and the bytes.
func TestSumAsTheWordsSay(t *testing.T) {
	for _, n := range keyLengths {
		key, text := strange(1, n), strange(2, 150)
		first := make([]byte, 64)
		if n > 64 {
			s := sha256.Sum256(key)
			copy(first, s[:])
		} else {
			copy(first, key)
		}
		second := bytes.Clone(first)
		for i := range 64 {
			first[i] ^= 0x5c
			second[i] ^= 0x36
		}
		within := sha256.Sum256(append(second, text...))
		whole := sha256.Sum256(append(first, within[:]...))
		if s := Sum(key, text); !bytes.Equal(s, whole[:]) {
			t.Errorf("Sum under %d bytes = %x; want %x", n, s, whole)
		}
	}
}

func TestSumUnderKeysOfEachLength(t *testing.T) {
	all := strange(3, 300)
	for n := range len(all) + 1 {
		for _, text := range [][]byte{nil, all[:28], all} {
			if s := Sum(all[:n], text); !bytes.Equal(s, want(all[:n], text)) || len(s) != 32 {
				t.Errorf("Sum under %d bytes of %d = %x", n, len(text), s)
			}
		}
	}
}

func TestSumOfEachLength(t *testing.T) {
	all := strange(4, 300)
	for _, n := range keyLengths {
		key := strange(5, n)
		for length := range len(all) + 1 {
			if s := Sum(key, all[:length]); !bytes.Equal(s, want(key, all[:length])) {
				t.Errorf("Sum under %d bytes of %d = %x", n, length, s)
			}
		}
	}
}

func TestSumUnderEachByte(t *testing.T) {
	for c := range 256 {
		for _, n := range keyLengths {
			key := bytes.Repeat([]byte{byte(c)}, n)
			if s := Sum(key, key); !bytes.Equal(s, want(key, key)) {
				t.Errorf("Sum under %d bytes %x = %x", n, c, s)
			}
		}
	}
}

func TestSumUnderNoKey(t *testing.T) {
	text := strange(6, 100)
	for _, key := range [][]byte{nil, {}, make([]byte, 1), make([]byte, 64)} {
		if s := Sum(key, text); !bytes.Equal(s, want(nil, text)) {
			t.Errorf("Sum(%v, ..) = %x", key, s)
		}
	}
}

func TestSumOfNoParts(t *testing.T) {
	for _, n := range keyLengths {
		key := strange(7, n)
		empty := want(key)
		for i, s := range [][]byte{Sum(key), Sum(key, nil), Sum(key, []byte{}), Sum(key, [][]byte{}...), Sum(key, nil, []byte{}, nil)} {
			if !bytes.Equal(s, empty) {
				t.Errorf("Sum under %d bytes of nothing, in the way %d, = %x; want %x", n, i, s, empty)
			}
		}
	}
}

// Parts that are nil or empty, ahead of others, between and behind them, make no difference.
func TestSumOfEmptyParts(t *testing.T) {
	for _, n := range keyLengths {
		key := strange(8, n)
		one, two := strange(9, 40), strange(10, 70)
		whole := want(key, one, two)
		for i, parts := range [][][]byte{
			{one, two}, {nil, one, two}, {{}, one, two}, {one, nil, two}, {one, {}, two}, {one, two, nil}, {one, two, {}},
			{nil, {}, one, {}, nil, two, nil, {}},
		} {
			if s := Sum(key, parts...); !bytes.Equal(s, whole) {
				t.Errorf("Sum under %d bytes of the list %d = %x; want %x", n, i, s, whole)
			}
		}
	}
}

func TestSumOfTwoParts(t *testing.T) {
	for _, n := range []int{0, 1, 32, 64, 65, 200} {
		key := strange(11, n)
		for _, length := range lengths {
			text := strange(12, length)
			whole := want(key, text)
			for cut := range length + 1 {
				if s := Sum(key, text[:cut], text[cut:]); !bytes.Equal(s, whole) {
					t.Errorf("Sum under %d bytes of %d and %d = %x; want %x", n, cut, length-cut, s, whole)
				}
			}
		}
	}
}

func TestSumOfPartsOfEachLength(t *testing.T) {
	all := strange(13, 700)
	for _, n := range []int{0, 4, 64, 65} {
		key := strange(14, n)
		whole := want(key, all)
		for length := 1; length <= 200; length++ {
			if s := Sum(key, slices.Collect(slices.Chunk(all, length))...); !bytes.Equal(s, whole) {
				t.Errorf("Sum under %d bytes of parts of %d = %x; want %x", n, length, s, whole)
			}
		}
	}
}

func TestSumOfManyParts(t *testing.T) {
	parts := make([][]byte, 100000)
	for i := range parts {
		parts[i] = []byte{byte(i), byte(i >> 8), byte(i >> 16)}[:i%4]
	}
	key := strange(15, 40)
	if s := Sum(key, parts...); !bytes.Equal(s, want(key, parts...)) {
		t.Errorf("Sum of %d parts = %x", len(parts), s)
	}
}

func TestSumOfAnyParts(t *testing.T) {
	r := rand.New(rand.NewPCG(9, 10))
	for range 2000 {
		key := strange(r.Uint64(), r.IntN(1<<r.IntN(9)))
		parts := make([][]byte, r.IntN(8))
		for i := range parts {
			parts[i] = strange(r.Uint64(), r.IntN(1<<r.IntN(10)))
		}
		if s := Sum(key, parts...); !bytes.Equal(s, want(key, parts...)) || !bytes.Equal(s, Sum(key, bytes.Join(parts, nil))) {
			t.Fatalf("Sum under %d bytes of %d parts = %x", len(key), len(parts), s)
		}
	}
}

// The order of parts, what belongs to the key, and what to a part, are told apart.
func TestSumTellsApart(t *testing.T) {
	one, two := []byte("one"), []byte("two")
	seen := map[string]int{}
	for i, s := range [][]byte{
		Sum(one, two), Sum(two, one), Sum(nil, one, two), Sum(nil, two, one), Sum([]byte("onetwo")), Sum(one, two, two), Sum(one), Sum(one, two, []byte{0}),
	} {
		if other, ok := seen[string(s)]; ok {
			t.Errorf("the sums %d and %d are one: %x", other, i, s)
		}
		seen[string(s)] = i
	}
}

// P7.2

func TestSame(t *testing.T) {
	for n := range 200 {
		if !Same(strange(16, n), strange(16, n)) {
			t.Errorf("two lists of the same %d bytes are not", n)
		}
		a := strange(16, n)
		if !Same(a, a) || !Same(a, a[:n:n]) {
			t.Errorf("a list of %d bytes isn't the same as itself", n)
		}
	}
}

// Lists that differ at any one place, there in any one bit, or in all.
func TestSameOfOneByte(t *testing.T) {
	for _, n := range []int{1, 2, 31, 32, 33, 64, 65, 200} {
		a := strange(17, n)
		for place := range n {
			for _, mask := range []byte{1, 2, 4, 8, 16, 32, 64, 128, 255} {
				b := bytes.Clone(a)
				b[place] ^= mask
				if Same(a, b) || Same(b, a) {
					t.Errorf("of %d bytes, with the byte %d other by %x: the same", n, place, mask)
				}
			}
		}
	}
}

// Differences of two places don't make up for each other, nor for those of length.
func TestSameOfTwoBytes(t *testing.T) {
	a := strange(18, 40)
	for one := range a {
		for two := range one {
			b := bytes.Clone(a)
			b[one] ^= 0x81
			b[two] ^= 0x81
			if Same(a, b) {
				t.Errorf("with the bytes %d and %d other by 81: the same", one, two)
			}
			b = bytes.Clone(a)
			b[one]++
			b[two]--
			if Same(a, b) {
				t.Errorf("with the bytes %d and %d greater and less by 1: the same", one, two)
			}
			b = bytes.Clone(a)
			b[one], b[two] = b[two], b[one]
			if Same(a, b) != (a[one] == a[two]) {
				t.Errorf("with the bytes %d and %d the other way round: %v", one, two, Same(a, b))
			}
		}
	}
	for n := range 40 {
		for more := 1; n+more <= 40; more++ {
			b := bytes.Clone(a[:n+more])
			for i := range b[:n] {
				b[i] ^= byte(more)
			}
			if Same(a[:n], b) || Same(b, a[:n]) {
				t.Errorf("%d bytes, and %d that are other by %x: the same", n, n+more, more)
			}
		}
	}
}

// One list begins the other: with any bytes, or noughts, behind; also by as many as a byte, or two, can't count.
func TestSameOfLengths(t *testing.T) {
	for _, all := range [][]byte{strange(19, 1<<16+70), make([]byte, 1<<16+70)} {
		for n := range 70 {
			for _, more := range []int{1, 2, 8, 31, 32, 64, 255, 256, 257, 512, 1 << 16} {
				if Same(all[:n], all[:n+more]) || Same(all[:n+more], all[:n]) {
					t.Errorf("%d bytes, and the same and %d more: the same", n, more)
				}
			}
		}
	}
}

func TestSameOfNothing(t *testing.T) {
	none := [][]byte{nil, {}, make([]byte, 0, 8), strange(20, 8)[8:]}
	for i, a := range none {
		for j, b := range none {
			if !Same(a, b) {
				t.Errorf("the lists %d and %d of nothing aren't the same", i, j)
			}
		}
		for _, b := range [][]byte{{0}, {1}, make([]byte, 32), make([]byte, 256)} {
			if Same(a, b) || Same(b, a) {
				t.Errorf("nothing is the same as %x", b)
			}
		}
	}
}

func TestSameOfSums(t *testing.T) {
	key, text := strange(21, 32), strange(22, 100)
	s := Sum(key, text)
	if !Same(s, Sum(key, text[:50], text[50:])) || Same(s, Sum(key, text[:99])) || Same(s, s[:31]) {
		t.Errorf("of sums such as %x", s)
	}
}

// P7.3

// A key of up to 64 bytes, and it with noughts behind it, up to 64.
func TestNoughtsBehindAKey(t *testing.T) {
	text := strange(23, 90)
	for n := range 65 {
		key := strange(24, n)
		whole := want(key, text)
		for more := range 64 - n + 1 {
			if s := Sum(append(bytes.Clone(key), make([]byte, more)...), text); !bytes.Equal(s, whole) {
				t.Errorf("Sum under %d bytes and %d noughts = %x; want %x", n, more, s, whole)
			}
		}
	}
}

// With one nought more than that it is another key: a long one.
func TestOneNoughtMore(t *testing.T) {
	text := strange(25, 90)
	for n := range 65 {
		key := strange(24, n)
		long := append(bytes.Clone(key), make([]byte, 65-n)...)
		s := Sum(long, text)
		if !bytes.Equal(s, want(long, text)) || bytes.Equal(s, Sum(key, text)) || bytes.Equal(s, Sum(long[:64], text)) {
			t.Errorf("Sum under %d bytes and %d noughts = %x", n, 65-n, s)
		}
	}
}

// Keys of more than 64 bytes, and their SHA-256, have the same sums; others don't.
func TestLongKeys(t *testing.T) {
	text := strange(26, 90)
	for _, n := range append(slices.Clone(keyLengths), 100000) {
		key := strange(27, n)
		short := sha256.Sum256(key)
		if same := bytes.Equal(Sum(key, text), Sum(short[:], text)); same != (n > 64) {
			t.Errorf("a key of %d bytes, and its SHA-256, have the same sums: %v", n, same)
		}
		if n > 64 && !bytes.Equal(Sum(key, text), Sum(append(short[:], make([]byte, 32)...), text)) {
			t.Errorf("a key of %d bytes, and its SHA-256 with noughts behind, have two sums", n)
		}
	}
}

// Each byte of a key counts, the last one too.
func TestEachByteOfAKeyCounts(t *testing.T) {
	text := strange(28, 10)
	for _, n := range []int{1, 32, 63, 64, 65, 129} {
		key := strange(29, n)
		whole := Sum(key, text)
		for place := range n {
			other := bytes.Clone(key)
			other[place] ^= 1
			if bytes.Equal(Sum(other, text), whole) {
				t.Errorf("the byte %d of a key of %d makes no difference", place, n)
			}
		}
	}
}

// Rule 4, and what an answer shares with others.

// roomy is a list of n bytes with room behind it, and all of its memory.
func roomy(seed uint64, n int) (list, all []byte) {
	all = strange(seed, n+200)
	return all[:n], all
}

// Neither a key nor a part, nor what stands behind it in the same memory, is read or changed.
func TestSumChangesNothing(t *testing.T) {
	for _, n := range keyLengths {
		for _, length := range lengths {
			key, allOfKey := roomy(30, n)
			one, allOfOne := roomy(31, length)
			two, allOfTwo := roomy(32, length+1)
			parts := [][]byte{one, nil, two, {}}
			whole := want(strange(30, n+200)[:n], strange(31, length+200)[:length], strange(32, length+201)[:length+1])
			if s := Sum(key, parts...); !bytes.Equal(s, whole) {
				t.Errorf("Sum under %d bytes of %d and %d, with others behind, = %x; want %x", n, length, length+1, s, whole)
			}
			if !bytes.Equal(allOfKey, strange(30, n+200)) || !bytes.Equal(allOfOne, strange(31, length+200)) || !bytes.Equal(allOfTwo, strange(32, length+201)) {
				t.Errorf("Sum under %d bytes of %d and %d changed them", n, length, length+1)
			}
			if len(parts[0]) != length || parts[1] != nil || len(parts[2]) != length+1 || parts[3] == nil || len(parts[3]) != 0 {
				t.Errorf("Sum changed the list of parts: %d", len(parts))
			}
		}
	}
}

func TestSumSharesNothing(t *testing.T) {
	for _, n := range keyLengths {
		key, text := strange(33, n), strange(34, 64)
		whole := want(key, text)
		first, second := Sum(key, text), Sum(key, text)
		all := first[:cap(first)]
		for i := range all {
			all[i] ^= 0xff
		}
		if !bytes.Equal(key, strange(33, n)) || !bytes.Equal(text, strange(34, 64)) {
			t.Errorf("an answer shares memory with its key of %d bytes, or with its part", n)
		}
		if !bytes.Equal(second, whole) || !bytes.Equal(Sum(key, text), whole) {
			t.Errorf("two answers under a key of %d bytes share memory", n)
		}
		clear(key)
		clear(text)
		if !bytes.Equal(second, whole) {
			t.Errorf("an answer hangs on its key of %d bytes, or on its part", n)
		}
	}
}

// One list as key and as each part, and parts that lie over each other.
func TestSumOfOneMemory(t *testing.T) {
	all := strange(35, 200)
	for _, n := range keyLengths[:18] {
		if s := Sum(all[:n], all, all[:n], all[n/2:], all); !bytes.Equal(s, want(all[:n], all, all[:n], all[n/2:], all)) {
			t.Errorf("Sum under %d bytes of the same = %x", n, s)
		}
	}
	if !bytes.Equal(all, strange(35, 200)) {
		t.Error("Sum changed them")
	}
}

func TestSameChangesNothing(t *testing.T) {
	for _, n := range lengths {
		a, allOfA := roomy(36, n)
		b, allOfB := roomy(36, n)
		c, allOfC := roomy(37, n+1)
		if !Same(a, b) || Same(a, c) || Same(c, a) || Same(a, allOfB) {
			t.Errorf("of %d bytes with others behind", n)
		}
		allOfB[n] ^= 1 // which is behind b's end
		if !Same(a, b) {
			t.Errorf("what stands behind %d bytes makes a difference", n)
		}
		allOfB[n] ^= 1
		if !bytes.Equal(allOfA, strange(36, n+200)) || !bytes.Equal(allOfB, strange(36, n+200)) || !bytes.Equal(allOfC, strange(37, n+201)) {
			t.Errorf("Same changed its lists of %d bytes", n)
		}
	}
}
