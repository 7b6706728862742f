package nat

import (
	"bytes"
	"encoding/binary"
	"math"
	"math/big"
	"math/rand/v2"
	"slices"
	"testing"

	"cleromancy/api"
)

const (
	ones  = math.MaxUint64
	limit = 64 * api.MaxWords // bits
)

// numbers are naturals whose words are 0, 1 or all ones, in every order up to four words (so that carries begin and end in every word, and noughts stand at ends), and some that have no pattern; the same in every run.
func numbers() [][]uint64 {
	list := [][]uint64{nil, {}}
	last := [][]uint64{nil}
	for range 4 {
		var longer [][]uint64
		for _, a := range last {
			for _, w := range []uint64{0, 1, ones} {
				longer = append(longer, append(slices.Clone(a), w))
			}
		}
		list = append(list, longer...)
		last = longer
	}
	for _, w := range []uint64{2, 5, 10, 255, 256, 1<<32 - 1, 1 << 32, 1<<63 - 1, 1 << 63, ones - 1} {
		list = append(list, []uint64{w}, []uint64{7, w}, []uint64{w, 0})
	}
	r := rand.New(rand.NewPCG(3, 4))
	for range 40 {
		list = append(list, random(r, r.IntN(9)))
	}
	return list
}

func random(r *rand.Rand, n int) []uint64 {
	a := make([]uint64, n)
	for i := range a {
		a[i] = r.Uint64()
	}
	return a
}

// full are n words of ones.
func full(n int) []uint64 {
	return slices.Repeat([]uint64{ones}, n)
}

// high is 2^n.
func high(n int) []uint64 {
	a := make([]uint64, n/64+1)
	a[n/64] = 1 << (n % 64)
	return a
}

func natural(a []uint64) *big.Int {
	b := make([]byte, 0, 8*len(a))
	for _, w := range slices.Backward(a) {
		b = binary.BigEndian.AppendUint64(b, w)
	}
	return new(big.Int).SetBytes(b)
}

func word64(w uint64) *big.Int { return new(big.Int).SetUint64(w) }

// pairs goes through all pairs of numbers.
func pairs(look func(a, b []uint64)) {
	list := numbers()
	for _, a := range list {
		for _, b := range list {
			look(a, b)
		}
	}
}

// is tells whether a natural is this number, and has no noughts at its end.
func is(a []uint64, want *big.Int) bool {
	return trimmed(a) && natural(a).Cmp(want) == 0
}

func trimmed(a []uint64) bool { return len(a) == 0 || a[len(a)-1] != 0 }

// P2.1

func TestTrim(t *testing.T) {
	for _, x := range []struct{ a, want []uint64 }{
		{nil, nil},
		{[]uint64{}, nil},
		{[]uint64{0}, nil},
		{[]uint64{0, 0, 0}, nil},
		{[]uint64{1}, []uint64{1}},
		{[]uint64{1, 0}, []uint64{1}},
		{[]uint64{0, 1}, []uint64{0, 1}},
		{[]uint64{0, 1, 0, 0}, []uint64{0, 1}},
		{[]uint64{ones, 0, 2, 0, 0, 0}, []uint64{ones, 0, 2}},
		{[]uint64{0, 0, 1 << 63}, []uint64{0, 0, 1 << 63}},
	} {
		if got := Trim(x.a); !slices.Equal(got, x.want) {
			t.Errorf("Trim(%x) = %x; want %x", x.a, got, x.want)
		}
	}
	for _, a := range numbers() {
		if got := Trim(a); !is(got, natural(a)) {
			t.Errorf("Trim(%x) = %x", a, got)
		}
	}
}

func TestTrimLeavesNoRoomBehind(t *testing.T) {
	a := []uint64{1, 2, 0, 0}
	if got := Trim(a); cap(got) != 2 {
		t.Error("room behind:", cap(got)-2)
	}
	_ = append(Trim(a), 9)
	got := Trim(a)
	got[0] = 8
	if !slices.Equal(a, []uint64{1, 2, 0, 0}) {
		t.Error("what was handed in:", a)
	}
}

func TestAddOfExamples(t *testing.T) {
	for _, x := range []struct{ a, b, want []uint64 }{
		{nil, nil, nil},
		{nil, []uint64{0, 0}, nil},
		{[]uint64{2}, []uint64{3}, []uint64{5}},
		{[]uint64{2, 0, 0}, []uint64{3, 0}, []uint64{5}},
		{nil, []uint64{7, 1}, []uint64{7, 1}},
		{[]uint64{7, 1}, nil, []uint64{7, 1}},
		{[]uint64{ones}, []uint64{1}, []uint64{0, 1}},
		{[]uint64{1}, []uint64{ones, ones, ones}, []uint64{0, 0, 0, 1}},
		{full(5), []uint64{1}, []uint64{0, 0, 0, 0, 0, 1}},
		{full(3), full(3), []uint64{ones - 1, ones, ones, 1}},
		{[]uint64{0, ones, ones}, []uint64{0, 1}, []uint64{0, 0, 0, 1}},
	} {
		if got := Add(x.a, x.b); !slices.Equal(got, x.want) {
			t.Errorf("Add(%x, %x) = %x; want %x", x.a, x.b, got, x.want)
		}
	}
}

func TestAddOfAllPairs(t *testing.T) {
	pairs(func(a, b []uint64) {
		if got := Add(a, b); !is(got, new(big.Int).Add(natural(a), natural(b))) {
			t.Fatalf("Add(%x, %x) = %x", a, b, got)
		}
	})
}

func TestSubOfExamples(t *testing.T) {
	for _, x := range []struct {
		a, b, want []uint64
		ok         bool
	}{
		{nil, nil, nil, true},
		{[]uint64{0, 0}, nil, nil, true},
		{nil, []uint64{0, 0}, nil, true},
		{[]uint64{5}, []uint64{3}, []uint64{2}, true},
		{[]uint64{5}, []uint64{5, 0, 0}, nil, true},
		{[]uint64{5, 0, 0, 0}, []uint64{5}, nil, true},
		{[]uint64{0, 1}, []uint64{1}, []uint64{ones}, true},
		{[]uint64{0, 0, 0, 1}, []uint64{1}, full(3), true},
		{[]uint64{7, 7, 9}, []uint64{7, 6, 9}, []uint64{0, 1}, true},
		{nil, []uint64{1}, nil, false},
		{[]uint64{3}, []uint64{5}, nil, false},
		{[]uint64{5, 0, 0}, []uint64{0, 1}, nil, false},
		{full(3), []uint64{0, 0, 0, 1}, nil, false},
		{[]uint64{ones, 1}, []uint64{0, 2}, nil, false},
	} {
		if got, ok := Sub(x.a, x.b); !slices.Equal(got, x.want) || ok != x.ok {
			t.Errorf("Sub(%x, %x) = %x, %t; want %x, %t", x.a, x.b, got, ok, x.want, x.ok)
		}
	}
}

func TestSubOfAllPairs(t *testing.T) {
	pairs(func(a, b []uint64) {
		got, ok := Sub(a, b)
		want := new(big.Int).Sub(natural(a), natural(b))
		if ok != (want.Sign() >= 0) || ok && !is(got, want) || !ok && len(got) != 0 {
			t.Fatalf("Sub(%x, %x) = %x, %t", a, b, got, ok)
		}
	})
}

func TestCmpOfExamples(t *testing.T) {
	for _, x := range []struct {
		a, b []uint64
		want int
	}{
		{nil, nil, 0},
		{nil, []uint64{0, 0, 0}, 0},
		{[]uint64{1, 0}, []uint64{1}, 0},
		{[]uint64{1}, []uint64{1, 0, 0}, 0},
		{nil, []uint64{1}, -1},
		{[]uint64{1}, []uint64{0, 0}, 1},
		{[]uint64{1}, []uint64{2}, -1},
		{[]uint64{1 << 63}, []uint64{1}, 1},
		{full(2), []uint64{0, 0, 1}, -1},
		{[]uint64{0, 0, 1}, full(2), 1},
		{[]uint64{9, 0, 0, 0}, []uint64{1, 1}, -1},
		{[]uint64{1, 7, 7}, []uint64{2, 7, 7}, -1},
		{[]uint64{7, 2, 7}, []uint64{9, 1, 7}, 1},
		{[]uint64{9, 9, 1}, []uint64{1, 1, 2}, -1},
	} {
		if got := Cmp(x.a, x.b); got != x.want {
			t.Errorf("Cmp(%x, %x) = %d; want %d", x.a, x.b, got, x.want)
		}
	}
}

func TestCmpOfAllPairs(t *testing.T) {
	pairs(func(a, b []uint64) {
		if got := Cmp(a, b); got != natural(a).Cmp(natural(b)) {
			t.Fatalf("Cmp(%x, %x) = %d", a, b, got)
		}
	})
}

func TestMulOfExamples(t *testing.T) {
	for _, x := range []struct{ a, b, want []uint64 }{
		{nil, nil, nil},
		{nil, full(3), nil},
		{full(3), []uint64{0, 0}, nil},
		{full(3), []uint64{1, 0}, full(3)},
		{[]uint64{6, 0}, []uint64{7, 0, 0}, []uint64{42}},
		{full(1), full(1), []uint64{1, ones - 1}},
		{full(2), full(2), []uint64{1, 0, ones - 1, ones}},
		{full(3), full(1), []uint64{1, ones, ones, ones - 1}},
		{[]uint64{0, 1}, []uint64{0, 0, 1}, []uint64{0, 0, 0, 1}},
		{[]uint64{0, 1 << 63}, []uint64{2}, []uint64{0, 0, 1}},
		{[]uint64{1, 2, 3}, []uint64{1, 10}, []uint64{1, 12, 23, 30}},
	} {
		if got := Mul(x.a, x.b); !slices.Equal(got, x.want) {
			t.Errorf("Mul(%x, %x) = %x; want %x", x.a, x.b, got, x.want)
		}
	}
}

func TestMulOfAllPairs(t *testing.T) {
	pairs(func(a, b []uint64) {
		if got := Mul(a, b); !is(got, new(big.Int).Mul(natural(a), natural(b))) {
			t.Fatalf("Mul(%x, %x) = %x", a, b, got)
		}
	})
}

func TestMulWordOfExamples(t *testing.T) {
	for _, x := range []struct {
		a    []uint64
		w    uint64
		want []uint64
	}{
		{nil, 0, nil},
		{nil, ones, nil},
		{[]uint64{0, 0}, 7, nil},
		{full(3), 0, nil},
		{full(3), 1, full(3)},
		{[]uint64{6, 0}, 7, []uint64{42}},
		{full(2), 2, []uint64{ones - 1, ones, 1}},
		{full(2), ones, []uint64{1, ones, ones - 1}},
		{[]uint64{0, 0, 1 << 63}, 4, []uint64{0, 0, 0, 2}},
		{[]uint64{1, 2, 3}, 5, []uint64{5, 10, 15}},
	} {
		if got := MulWord(x.a, x.w); !slices.Equal(got, x.want) {
			t.Errorf("MulWord(%x, %x) = %x; want %x", x.a, x.w, got, x.want)
		}
	}
}

func TestMulWordOfAllPairs(t *testing.T) {
	pairs(func(a, b []uint64) {
		for _, w := range b {
			if got := MulWord(a, w); !is(got, new(big.Int).Mul(natural(a), word64(w))) {
				t.Fatalf("MulWord(%x, %x) = %x", a, w, got)
			}
		}
	})
}

// No limit is named for sums and products: naturals are of any length.
func TestSumsAndProductsBeyondMaxWords(t *testing.T) {
	r := rand.New(rand.NewPCG(5, 6))
	a, b := random(r, api.MaxWords), random(r, api.MaxWords+3)
	x, y := natural(a), natural(b)
	if !is(Add(full(api.MaxWords), []uint64{1}), natural(high(limit))) {
		t.Error("Add")
	}
	if got, ok := Sub(high(limit), []uint64{1}); !ok || !slices.Equal(got, full(api.MaxWords)) {
		t.Error("Sub")
	}
	if !is(Mul(a, b), x.Mul(x, y)) {
		t.Error("Mul")
	}
	if !is(MulWord(full(api.MaxWords), ones), new(big.Int).Mul(natural(full(api.MaxWords)), word64(ones))) {
		t.Error("MulWord")
	}
	q, left, e := DivWord(b, 10)
	rest := new(big.Int)
	y.QuoRem(y, word64(10), rest)
	if e != api.OK || !is(q, y) || left != rest.Uint64() {
		t.Error("DivWord")
	}
	if Bits(high(limit)) != limit+1 || Cmp(high(limit), full(api.MaxWords)) != 1 {
		t.Error("Bits, Cmp")
	}
}

func TestBits(t *testing.T) {
	for _, x := range []struct {
		a    []uint64
		want int
	}{
		{nil, 0},
		{[]uint64{0, 0}, 0},
		{[]uint64{1}, 1},
		{[]uint64{5, 0}, 3},
		{[]uint64{ones}, 64},
		{[]uint64{ones, 0, 0}, 64},
		{[]uint64{0, 1}, 65},
		{[]uint64{0, 4, 0}, 67},
		{full(4), 256},
	} {
		if got := Bits(x.a); got != x.want {
			t.Errorf("Bits(%x) = %d; want %d", x.a, got, x.want)
		}
	}
	for _, a := range numbers() {
		if Bits(a) != natural(a).BitLen() {
			t.Errorf("Bits(%x) = %d", a, Bits(a))
		}
	}
}

// P2.2

func TestDivWordOfExamples(t *testing.T) {
	for _, x := range []struct {
		a    []uint64
		w    uint64
		want []uint64
		left uint64
	}{
		{nil, 1, nil, 0},
		{nil, ones, nil, 0},
		{[]uint64{0, 0}, 3, nil, 0},
		{[]uint64{17}, 5, []uint64{3}, 2},
		{[]uint64{17, 0, 0}, 5, []uint64{3}, 2},
		{[]uint64{4}, 5, nil, 4},
		{[]uint64{5}, 5, []uint64{1}, 0},
		{full(3), 1, full(3), 0},
		{[]uint64{0, 1}, 2, []uint64{1 << 63}, 0},
		{[]uint64{5, 1}, 16, []uint64{1 << 60}, 5},
		{full(2), ones, []uint64{1, 1}, 0},
		{[]uint64{ones - 1, ones - 1}, ones, []uint64{ones}, ones - 2},
		{[]uint64{7766279631452241920, 5}, 10, []uint64{10000000000000000000}, 0},
	} {
		if got, left, e := DivWord(x.a, x.w); !slices.Equal(got, x.want) || left != x.left || e != api.OK {
			t.Errorf("DivWord(%x, %x) = %x, %x, %d; want %x, %x", x.a, x.w, got, left, e, x.want, x.left)
		}
	}
}

func TestDivWordOfAllPairs(t *testing.T) {
	pairs(func(a, b []uint64) {
		for _, w := range b {
			if w == 0 {
				continue
			}
			got, left, e := DivWord(a, w)
			want, rest := new(big.Int).QuoRem(natural(a), word64(w), new(big.Int))
			if e != api.OK || !is(got, want) || left != rest.Uint64() {
				t.Fatalf("DivWord(%x, %x) = %x, %x, %d", a, w, got, left, e)
			}
		}
	})
}

func TestDivWordByNought(t *testing.T) {
	for _, a := range numbers() {
		if got, left, e := DivWord(a, 0); len(got) != 0 || left != 0 || e != api.ErrZero {
			t.Errorf("DivWord(%x, 0) = %x, %d, %d", a, got, left, e)
		}
	}
}

func TestLeftOfExamples(t *testing.T) {
	for _, x := range []struct {
		a    []uint64
		n    int
		want []uint64
	}{
		{nil, 0, nil},
		{[]uint64{3}, 0, []uint64{3}},
		{[]uint64{3, 0, 0}, 0, []uint64{3}},
		{[]uint64{3, 0}, 1, []uint64{6}},
		{[]uint64{3}, 63, []uint64{1 << 63, 1}},
		{[]uint64{3}, 64, []uint64{0, 3}},
		{[]uint64{3}, 127, []uint64{0, 1 << 63, 1}},
		{[]uint64{1, 2, 3}, 65, []uint64{0, 2, 4, 6}},
		{full(2), 4, []uint64{ones - 15, ones, 15}},
	} {
		if got, e := Left(x.a, x.n); !slices.Equal(got, x.want) || e != api.OK {
			t.Errorf("Left(%x, %d) = %x, %d; want %x", x.a, x.n, got, e, x.want)
		}
	}
}

func TestLeftByEveryN(t *testing.T) {
	for _, a := range numbers() {
		for n := range 200 {
			if got, e := Left(a, n); e != api.OK || !is(got, new(big.Int).Lsh(natural(a), uint(n))) {
				t.Fatalf("Left(%x, %d) = %x, %d", a, n, got, e)
			}
		}
	}
}

func TestLeftAtItsLimit(t *testing.T) {
	for _, a := range numbers() {
		if Bits(a) == 0 {
			continue
		}
		room := limit - Bits(a)
		if got, e := Left(a, room); e != api.OK || len(got) != api.MaxWords || !is(got, new(big.Int).Lsh(natural(a), uint(room))) {
			t.Fatalf("Left(%x, %d) has %d words, %d", a, room, len(got), e)
		}
		for _, n := range []int{room + 1, room + 64, limit, limit + 1, math.MaxInt32, math.MaxInt - limit, math.MaxInt - 1, math.MaxInt} {
			if got, e := Left(a, n); len(got) != 0 || e != api.ErrLimit {
				t.Fatalf("Left(%x, %d) has %d words, %d", a, n, len(got), e)
			}
		}
	}
}

func TestLeftOfWhatIsAtTheLimitAlready(t *testing.T) {
	if got, e := Left(append(full(api.MaxWords), 0, 0), 0); e != api.OK || !slices.Equal(got, full(api.MaxWords)) {
		t.Error("just as many bits:", len(got), e)
	}
	for _, a := range [][]uint64{high(limit), full(api.MaxWords + 9)} {
		for _, n := range []int{0, 1, math.MaxInt} {
			if got, e := Left(a, n); len(got) != 0 || e != api.ErrLimit {
				t.Errorf("%d bits by %d: %d words, %d", Bits(a), n, len(got), e)
			}
		}
	}
	if got, e := Left(full(api.MaxWords), 1); len(got) != 0 || e != api.ErrLimit {
		t.Error("one bit more:", len(got), e)
	}
}

func TestLeftOfNought(t *testing.T) {
	for _, a := range [][]uint64{nil, {}, {0}, {0, 0, 0}, make([]uint64, api.MaxWords+1)} {
		for _, n := range []int{0, 1, 64, limit, limit + 1, math.MaxInt} {
			if got, e := Left(a, n); len(got) != 0 || e != api.OK {
				t.Errorf("Left of nought by %d = %x, %d", n, got, e)
			}
		}
	}
}

func TestLeftBelowNought(t *testing.T) {
	for _, a := range append(numbers(), high(limit)) {
		for _, n := range []int{-1, -64, math.MinInt32, math.MinInt + 1, math.MinInt} {
			if got, e := Left(a, n); len(got) != 0 || e != api.ErrArg {
				t.Fatalf("Left(%x, %d) = %x, %d", a, n, got, e)
			}
		}
	}
}

func TestPowerOfExamples(t *testing.T) {
	for _, x := range []struct {
		w    uint64
		n    int
		want []uint64
	}{
		{10, 20, []uint64{7766279631452241920, 5}},
		{3, 4, []uint64{81}},
		{3, 0, []uint64{1}},
		{3, 1, []uint64{3}},
		{ones, 0, []uint64{1}},
		{ones, 1, []uint64{ones}},
		{ones, 2, []uint64{1, ones - 1}},
		{2, 63, []uint64{1 << 63}},
		{2, 64, []uint64{0, 1}},
	} {
		if got, e := Power(x.w, x.n); !slices.Equal(got, x.want) || e != api.OK {
			t.Errorf("Power(%d, %d) = %d, %d; want %d", x.w, x.n, got, e, x.want)
		}
	}
}

func TestPowerOfNoughtAndOne(t *testing.T) {
	if got, e := Power(0, 0); !slices.Equal(got, []uint64{1}) || e != api.OK {
		t.Errorf("0 to the 0th = %d, %d", got, e)
	}
	if got, e := Power(1, 0); !slices.Equal(got, []uint64{1}) || e != api.OK {
		t.Errorf("1 to the 0th = %d, %d", got, e)
	}
	for _, n := range []int{1, 2, 64, limit, limit + 1, math.MaxInt32, math.MaxInt - 1, math.MaxInt} {
		if got, e := Power(0, n); len(got) != 0 || e != api.OK {
			t.Errorf("0 to the %d = %d, %d", n, got, e)
		}
		if got, e := Power(1, n); !slices.Equal(got, []uint64{1}) || e != api.OK {
			t.Errorf("1 to the %d = %d, %d", n, got, e)
		}
	}
}

func TestPowerBySmallN(t *testing.T) {
	for _, w := range []uint64{2, 3, 7, 10, 255, 256, 1<<20 - 1, 1 << 20, 1<<32 + 1, 1 << 63, ones - 1, ones} {
		for n := range 70 {
			want := new(big.Int).Exp(word64(w), big.NewInt(int64(n)), nil)
			if got, e := Power(w, n); e != api.OK || !is(got, want) {
				t.Fatalf("Power(%d, %d) = %d, %d", w, n, got, e)
			}
		}
	}
}

// The limit is of n times the bits of w: of 2, which has two, half as many n as there are bits.
func TestPowerAtItsLimit(t *testing.T) {
	for _, x := range []struct {
		w    uint64
		most int
	}{
		{2, limit / 2}, {3, limit / 2}, {4, limit / 3}, {7, limit / 3}, {255, limit / 8}, {256, limit / 9},
		{1 << 20, limit / 21}, {1<<63 - 1, limit / 63}, {1 << 63, api.MaxWords}, {ones, api.MaxWords},
	} {
		want := new(big.Int).Exp(word64(x.w), big.NewInt(int64(x.most)), nil)
		if got, e := Power(x.w, x.most); e != api.OK || !is(got, want) {
			t.Errorf("Power(%d, %d) has %d words, %d", x.w, x.most, len(got), e)
		}
		for _, n := range []int{x.most + 1, limit, limit + 1, math.MaxInt32, math.MaxInt/2 + 1, math.MaxInt/2 + 2, math.MaxInt - 1, math.MaxInt} {
			if got, e := Power(x.w, n); len(got) != 0 || e != api.ErrLimit {
				t.Errorf("Power(%d, %d) has %d words, %d", x.w, n, len(got), e)
			}
		}
	}
}

func TestPowerBelowNought(t *testing.T) {
	for _, w := range []uint64{0, 1, 2, 10, 1 << 63, ones} {
		for _, n := range []int{-1, -64, math.MinInt32, math.MinInt + 1, math.MinInt} {
			if got, e := Power(w, n); len(got) != 0 || e != api.ErrArg {
				t.Errorf("Power(%d, %d) = %d, %d", w, n, got, e)
			}
		}
	}
}

// P2.3

func TestOfAndBytesOfExamples(t *testing.T) {
	for _, x := range []struct {
		a []uint64
		b []byte
	}{
		{nil, nil},
		{[]uint64{1}, []byte{1}},
		{[]uint64{255}, []byte{255}},
		{[]uint64{256}, []byte{1, 0}},
		{[]uint64{300}, []byte{1, 44}},
		{[]uint64{0x0102030405060708}, []byte{1, 2, 3, 4, 5, 6, 7, 8}},
		{[]uint64{0x0203040506070809, 1}, []byte{1, 2, 3, 4, 5, 6, 7, 8, 9}},
		{[]uint64{0, 0, 1}, []byte{16: 0, 0: 1}},
	} {
		if got := Bytes(x.a); !bytes.Equal(got, x.b) {
			t.Errorf("Bytes(%x) = %x; want %x", x.a, got, x.b)
		}
		if got := Bytes(append(slices.Clone(x.a), 0, 0)); !bytes.Equal(got, x.b) {
			t.Errorf("Bytes(%x and noughts) = %x; want %x", x.a, got, x.b)
		}
		for noughts := range 20 {
			b := append(make([]byte, noughts), x.b...)
			if got := Of(b); !slices.Equal(got, x.a) {
				t.Errorf("Of(%x) = %x; want %x", b, got, x.a)
			}
		}
	}
}

func TestOfAndBytesOfAllNumbers(t *testing.T) {
	for _, a := range append(numbers(), high(limit), full(api.MaxWords+1)) {
		b := Bytes(a)
		if !bytes.Equal(b, natural(a).Bytes()) {
			t.Fatalf("Bytes(%x) = %x", a, b)
		}
	}
	r := rand.New(rand.NewPCG(7, 8))
	for n := range 100 {
		b := make([]byte, n)
		for i := range b {
			b[i] = byte(r.Uint64())
		}
		if got := Of(b); !is(got, new(big.Int).SetBytes(b)) {
			t.Fatalf("Of(%x) = %x", b, got)
		}
	}
}

// P2.4

func TestWhatIsMultipliedIsDividedExactly(t *testing.T) {
	pairs(func(a, b []uint64) {
		for _, w := range b {
			if w == 0 {
				continue
			}
			got, left, e := DivWord(MulWord(a, w), w)
			if !slices.Equal(got, Trim(a)) || left != 0 || e != api.OK {
				t.Fatalf("%x times %x, and by it: %x, %d, %d", a, w, got, left, e)
			}
		}
	})
}

func TestPowersAddUp(t *testing.T) {
	power := func(w uint64, n int) []uint64 {
		got, e := Power(w, n)
		if e != api.OK {
			t.Fatalf("Power(%d, %d): %d", w, n, e)
		}
		return got
	}
	for _, w := range []uint64{0, 1, 2, 3, 10, 1 << 20, 1<<63 + 1, ones} {
		for m := range 40 {
			for n := range 40 {
				if !slices.Equal(Mul(power(w, m), power(w, n)), power(w, m+n)) {
					t.Fatalf("%d to the %d times to the %d", w, m, n)
				}
			}
		}
		if !slices.Equal(Mul(power(w, 1000), power(w, api.MaxWords-1000)), power(w, api.MaxWords)) {
			t.Fatalf("%d to the %d", w, api.MaxWords)
		}
	}
	for n := range 300 {
		left, e := Left([]uint64{1}, n)
		if e != api.OK || !slices.Equal(power(2, n), left) {
			t.Fatalf("2 to the %d", n)
		}
	}
}

func TestWhatIsWrittenIsRead(t *testing.T) {
	for _, a := range append(numbers(), full(api.MaxWords), high(limit)) {
		if got := Of(Bytes(a)); !slices.Equal(got, Trim(a)) {
			t.Fatalf("Of(Bytes(%x)) = %x", a, got)
		}
	}
	for _, b := range [][]byte{nil, {1}, {1, 0, 0}, bytes.Repeat([]byte{255}, 24), bytes.Repeat([]byte{7}, 61)} {
		if got := Bytes(Of(b)); !bytes.Equal(got, b) {
			t.Errorf("Bytes(Of(%x)) = %x", b, got)
		}
	}
}

func TestWhatIsHandedInIsNotChanged(t *testing.T) {
	pairs(func(a, b []uint64) {
		keepA, keepB := slices.Clone(a), slices.Clone(b)
		c := Bytes(a)
		keepC := slices.Clone(c)
		Trim(a)
		Add(a, b)
		Sub(a, b)
		Cmp(a, b)
		Mul(a, b)
		MulWord(a, 3)
		DivWord(a, 3)
		Left(a, 3)
		Bits(a)
		Of(c)
		if !slices.Equal(a, keepA) || !slices.Equal(b, keepB) || !slices.Equal(c, keepC) {
			t.Fatalf("%x, %x, %x became %x, %x, %x", keepA, keepB, keepC, a, b, c)
		}
	})
}

// What is answered is new memory: who writes into it changes nothing that was handed in.
func TestAnswersAreNewMemory(t *testing.T) {
	a, b, none := []uint64{7, 8, 0}, []uint64{1, 0}, []uint64{0}
	spoil := func(list []uint64) {
		for i := range list {
			list[i] = ones
		}
	}
	spoil(Trim(a))
	spoil(Add(a, none))
	spoil(Add(none, a))
	rest, _ := Sub(a, none)
	spoil(rest)
	spoil(Mul(a, b))
	spoil(Mul(b, a))
	spoil(MulWord(a, 1))
	q, _, _ := DivWord(a, 1)
	spoil(q)
	left, _ := Left(a, 0)
	spoil(left)
	if !slices.Equal(a, []uint64{7, 8, 0}) || !slices.Equal(b, []uint64{1, 0}) || none[0] != 0 {
		t.Error("what was handed in:", a, b, none)
	}
}
