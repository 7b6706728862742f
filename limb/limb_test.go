package limb

import (
	"bytes"
	"math"
	"math/big"
	"math/bits"
	"math/rand/v2"
	"slices"
	"testing"

	"cleromancy/api"
)

const ones = math.MaxUint64

var (
	nought = api.Four{}
	one    = api.Four{1}
	top    = api.Four{ones, ones, ones, ones}
	mixed  = api.Four{0x0706050403020100, 0x0f0e0d0c0b0a0908, 0x1716151413121110, 0x1f1e1d1c1b1a1918}
)

// edges are numbers whose words are 0, 1 or all ones, in every order: with them carries begin and end in every word.
func edges() []api.Four {
	list := []api.Four{{}}
	for i := range 4 {
		var longer []api.Four
		for _, a := range list {
			for _, w := range []uint64{0, 1, ones} {
				a[i] = w
				longer = append(longer, a)
			}
		}
		list = longer
	}
	return list
}

// numbers are edges, numbers beside the ends of words, and some that have no pattern; the same in every run.
func numbers() []api.Four {
	list := append(edges(), mixed)
	for i := range 4 {
		for _, w := range []uint64{2, 5, 1<<32 - 1, 1 << 32, 1<<63 - 1, 1 << 63, ones - 1} {
			var a api.Four
			a[i] = w
			list = append(list, a)
		}
	}
	r := rand.New(rand.NewPCG(1, 2))
	for range 40 {
		list = append(list, api.Four{r.Uint64(), r.Uint64(), r.Uint64(), r.Uint64()})
	}
	return list
}

// natural is the number of words, the lowest first.
func natural(words ...uint64) *big.Int {
	n := new(big.Int)
	for _, w := range slices.Backward(words) {
		n.Lsh(n, 64)
		n.Or(n, new(big.Int).SetUint64(w))
	}
	return n
}

func four(a api.Four) *big.Int { return natural(a[:]...) }

func power(n uint) *big.Int { return new(big.Int).Lsh(big.NewInt(1), n) }

func modulo(n *big.Int) *big.Int { return new(big.Int).Mod(n, power(256)) }

// pairs goes through all pairs of numbers.
func pairs(look func(a, b api.Four)) {
	list := numbers()
	for _, a := range list {
		for _, b := range list {
			look(a, b)
		}
	}
}

// P1.1

func TestAddOfExamples(t *testing.T) {
	for _, x := range []struct {
		a, b, sum api.Four
		carry     uint64
	}{
		{nought, nought, nought, 0},
		{api.Four{2}, api.Four{3}, api.Four{5}, 0},
		{top, one, nought, 1},
		{one, top, nought, 1},
		{top, nought, top, 0},
		{top, top, api.Four{ones - 1, ones, ones, ones}, 1},
		{api.Four{ones}, one, api.Four{0, 1}, 0},
		{api.Four{ones, ones}, one, api.Four{0, 0, 1}, 0},
		{api.Four{ones, ones, ones}, one, api.Four{0, 0, 0, 1}, 0},
		{api.Four{0, ones, ones, ones}, api.Four{0, 1}, nought, 1},
		{api.Four{0, 0, 0, 1 << 63}, api.Four{0, 0, 0, 1 << 63}, nought, 1},
		{api.Four{1, 2, 3, 4}, api.Four{10, 20, 30, 40}, api.Four{11, 22, 33, 44}, 0},
	} {
		if sum, carry := Add(x.a, x.b); sum != x.sum || carry != x.carry {
			t.Errorf("Add(%x, %x) = %x, %d; want %x, %d", x.a, x.b, sum, carry, x.sum, x.carry)
		}
	}
}

func TestSubOfExamples(t *testing.T) {
	for _, x := range []struct {
		a, b, rest api.Four
		borrow     uint64
	}{
		{nought, nought, nought, 0},
		{api.Four{5}, api.Four{3}, api.Four{2}, 0},
		{api.Four{3}, api.Four{5}, api.Four{ones - 1, ones, ones, ones}, 1},
		{nought, one, top, 1},
		{nought, top, one, 1},
		{top, top, nought, 0},
		{top, nought, top, 0},
		{api.Four{0, 1}, one, api.Four{ones}, 0},
		{api.Four{0, 0, 1}, one, api.Four{ones, ones}, 0},
		{api.Four{0, 0, 0, 1}, one, api.Four{ones, ones, ones}, 0},
		{api.Four{0, 0, 0, 1}, api.Four{0, 0, 0, 2}, api.Four{0, 0, 0, ones}, 1},
		{api.Four{11, 22, 33, 44}, api.Four{1, 2, 3, 4}, api.Four{10, 20, 30, 40}, 0},
	} {
		if rest, borrow := Sub(x.a, x.b); rest != x.rest || borrow != x.borrow {
			t.Errorf("Sub(%x, %x) = %x, %d; want %x, %d", x.a, x.b, rest, borrow, x.rest, x.borrow)
		}
	}
}

func TestAddOfAllPairs(t *testing.T) {
	pairs(func(a, b api.Four) {
		sum, carry := Add(a, b)
		want := new(big.Int).Add(four(a), four(b))
		if natural(append(sum[:], carry)...).Cmp(want) != 0 {
			t.Fatalf("Add(%x, %x) = %x, %d", a, b, sum, carry)
		}
	})
}

func TestSubOfAllPairs(t *testing.T) {
	pairs(func(a, b api.Four) {
		rest, borrow := Sub(a, b)
		want := new(big.Int).Sub(four(a), four(b))
		var below uint64
		if want.Sign() < 0 {
			below = 1
		}
		if four(rest).Cmp(modulo(want)) != 0 || borrow != below {
			t.Fatalf("Sub(%x, %x) = %x, %d", a, b, rest, borrow)
		}
	})
}

func TestMulOfExamples(t *testing.T) {
	for _, x := range []struct {
		a, b    api.Four
		product api.Eight
	}{
		{nought, top, api.Eight{}},
		{top, nought, api.Eight{}},
		{top, one, api.Eight{ones, ones, ones, ones}},
		{api.Four{6}, api.Four{7}, api.Eight{42}},
		{api.Four{ones}, api.Four{ones}, api.Eight{1, ones - 1}},
		{api.Four{0, 1}, api.Four{0, 0, 0, 1}, api.Eight{0, 0, 0, 0, 1}},
		{api.Four{0, 0, 0, 3}, api.Four{0, 0, 0, 5}, api.Eight{0, 0, 0, 0, 0, 0, 15}},
		{api.Four{0, 0, 0, 1 << 63}, api.Four{0, 0, 0, 2}, api.Eight{0, 0, 0, 0, 0, 0, 0, 1}},
		{top, top, api.Eight{1, 0, 0, 0, ones - 1, ones, ones, ones}},
		{api.Four{1, 2, 3, 4}, api.Four{1, 10, 100, 1000}, api.Eight{1, 12, 123, 1234, 2340, 3400, 4000}},
	} {
		if product := Mul(x.a, x.b); product != x.product {
			t.Errorf("Mul(%x, %x) = %x; want %x", x.a, x.b, product, x.product)
		}
	}
}

func TestMulOfAllPairs(t *testing.T) {
	pairs(func(a, b api.Four) {
		product := Mul(a, b)
		want := new(big.Int).Mul(four(a), four(b))
		if natural(product[:]...).Cmp(want) != 0 {
			t.Fatalf("Mul(%x, %x) = %x", a, b, product)
		}
	})
}

func TestMulWordOfExamples(t *testing.T) {
	for _, x := range []struct {
		a       api.Four
		w       uint64
		product api.Four
		above   uint64
	}{
		{nought, ones, nought, 0},
		{top, 0, nought, 0},
		{top, 1, top, 0},
		{api.Four{6}, 7, api.Four{42}, 0},
		{top, 2, api.Four{ones - 1, ones, ones, ones}, 1},
		{top, ones, api.Four{1, ones, ones, ones}, ones - 1},
		{api.Four{ones}, ones, api.Four{1, ones - 1}, 0},
		{api.Four{0, 0, 0, 1 << 63}, 4, nought, 2},
		{api.Four{1, 2, 3, 4}, 5, api.Four{5, 10, 15, 20}, 0},
	} {
		if product, above := MulWord(x.a, x.w); product != x.product || above != x.above {
			t.Errorf("MulWord(%x, %x) = %x, %x; want %x, %x", x.a, x.w, product, above, x.product, x.above)
		}
	}
}

func TestMulWordOfAllPairs(t *testing.T) {
	pairs(func(a, b api.Four) {
		for _, w := range b {
			product, above := MulWord(a, w)
			want := new(big.Int).Mul(four(a), natural(w))
			if natural(append(product[:], above)...).Cmp(want) != 0 {
				t.Fatalf("MulWord(%x, %x) = %x, %x", a, w, product, above)
			}
		}
	})
}

func TestCmpOfExamples(t *testing.T) {
	for _, x := range []struct {
		a, b  api.Four
		order int
	}{
		{nought, nought, 0},
		{top, top, 0},
		{mixed, mixed, 0},
		{nought, one, -1},
		{one, nought, 1},
		{nought, top, -1},
		{top, nought, 1},
		{api.Four{ones, ones, ones}, api.Four{0, 0, 0, 1}, -1},
		{api.Four{0, 0, 0, 1}, api.Four{ones, ones, ones}, 1},
		{api.Four{0, 0, 0, 1 << 63}, api.Four{0, 0, 0, 1}, 1},
		{api.Four{1, 7, 7, 7}, api.Four{2, 7, 7, 7}, -1},
		{api.Four{7, 1, 7, 7}, api.Four{7, 2, 7, 7}, -1},
		{api.Four{7, 7, 1, 7}, api.Four{7, 7, 2, 7}, -1},
		{api.Four{7, 7, 7, 1}, api.Four{7, 7, 7, 2}, -1},
	} {
		if order := Cmp(x.a, x.b); order != x.order {
			t.Errorf("Cmp(%x, %x) = %d; want %d", x.a, x.b, order, x.order)
		}
	}
}

func TestCmpOfAllPairs(t *testing.T) {
	pairs(func(a, b api.Four) {
		if order := Cmp(a, b); order != four(a).Cmp(four(b)) {
			t.Fatalf("Cmp(%x, %x) = %d", a, b, order)
		}
	})
}

// P1.2

func TestSelectByTheLowestBitAlone(t *testing.T) {
	pairs(func(a, b api.Four) {
		for _, c := range []uint64{1, 3, 1<<63 + 1, ones} {
			if got := Select(c, a, b); got != a {
				t.Fatalf("Select(%x, %x, %x) = %x", c, a, b, got)
			}
		}
		for _, c := range []uint64{0, 2, 1 << 63, ones - 1} {
			if got := Select(c, a, b); got != b {
				t.Fatalf("Select(%x, %x, %x) = %x", c, a, b, got)
			}
		}
	})
}

func TestShiftsOfExamples(t *testing.T) {
	for _, x := range []struct {
		a           api.Four
		n           int
		left, right api.Four
	}{
		{mixed, 0, mixed, mixed},
		{top, 1, api.Four{ones - 1, ones, ones, ones}, api.Four{ones, ones, ones, ones >> 1}},
		{top, 64, api.Four{0, ones, ones, ones}, api.Four{ones, ones, ones}},
		{top, 128, api.Four{0, 0, ones, ones}, api.Four{ones, ones}},
		{top, 192, api.Four{0, 0, 0, ones}, api.Four{ones}},
		{top, 255, api.Four{0, 0, 0, 1 << 63}, one},
		{top, 256, nought, nought},
		{api.Four{1, 2, 3, 4}, 63, api.Four{1 << 63, 0, 1<<63 + 1, 1}, api.Four{4, 6, 8, 0}},
		{api.Four{1, 2, 3, 4}, 65, api.Four{0, 2, 4, 6}, api.Four{1<<63 + 1, 1, 2, 0}},
		{api.Four{0, 1}, 191, api.Four{0, 0, 0, 1 << 63}, nought},
		{nought, 7, nought, nought},
	} {
		if left := Left(x.a, x.n); left != x.left {
			t.Errorf("Left(%x, %d) = %x; want %x", x.a, x.n, left, x.left)
		}
		if right := Right(x.a, x.n); right != x.right {
			t.Errorf("Right(%x, %d) = %x; want %x", x.a, x.n, right, x.right)
		}
	}
}

func TestShiftsByEveryN(t *testing.T) {
	for _, a := range numbers() {
		for n := range 256 {
			left := modulo(new(big.Int).Lsh(four(a), uint(n)))
			if got := Left(a, n); four(got).Cmp(left) != 0 {
				t.Fatalf("Left(%x, %d) = %x", a, n, got)
			}
			right := new(big.Int).Rsh(four(a), uint(n))
			if got := Right(a, n); four(got).Cmp(right) != 0 {
				t.Fatalf("Right(%x, %d) = %x", a, n, got)
			}
		}
	}
}

func TestShiftsBeyondTheirEnds(t *testing.T) {
	for _, a := range numbers() {
		for _, n := range []int{-1, -63, -64, -65, -255, -256, math.MinInt32, math.MinInt + 1, math.MinInt} {
			if l, r := Left(a, n), Right(a, n); l != a || r != a {
				t.Fatalf("%x by %d: Left %x, Right %x", a, n, l, r)
			}
		}
		for _, n := range []int{256, 257, 319, 320, 512, 1 << 16, 1 << 32, math.MaxInt32, math.MaxInt - 1, math.MaxInt} {
			if l, r := Left(a, n), Right(a, n); l != nought || r != nought {
				t.Fatalf("%x by %d: Left %x, Right %x", a, n, l, r)
			}
		}
	}
}

func TestBitOfEveryI(t *testing.T) {
	for _, a := range numbers() {
		for i := range 256 {
			if got := Bit(a, i); got != uint64(four(a).Bit(i)) {
				t.Fatalf("Bit(%x, %d) = %d", a, i, got)
			}
		}
	}
	for i := range 256 {
		if Bit(top, i) != 1 || Bit(nought, i) != 0 || Bit(Left(one, i), i) != 1 {
			t.Fatalf("Bit at %d", i)
		}
	}
}

func TestBitWhereThereIsNone(t *testing.T) {
	for _, i := range []int{-1, -63, -64, -65, -256, math.MinInt32, math.MinInt + 1, math.MinInt,
		256, 257, 319, 320, 512, 1 << 16, 1 << 32, math.MaxInt32, math.MaxInt - 1, math.MaxInt} {
		if got := Bit(top, i); got != 0 {
			t.Errorf("Bit of all ones at %d = %d", i, got)
		}
	}
}

func TestBits(t *testing.T) {
	if Bits(nought) != 0 || Bits(one) != 1 || Bits(api.Four{5}) != 3 || Bits(top) != 256 {
		t.Error("Bits of 0, 1, 5 and all ones:", Bits(nought), Bits(one), Bits(api.Four{5}), Bits(top))
	}
	for i := range 256 {
		power := Left(one, i)
		below, _ := Sub(power, one)
		if Bits(power) != i+1 || Bits(below) != i {
			t.Errorf("Bits of 2^%d and one below: %d, %d", i, Bits(power), Bits(below))
		}
	}
	for _, a := range numbers() {
		if Bits(a) != four(a).BitLen() {
			t.Errorf("Bits(%x) = %d", a, Bits(a))
		}
	}
}

// P1.3

func TestOfAndBytesOfExamples(t *testing.T) {
	rising := make([]byte, 32)
	for i := range rising {
		rising[i] = byte(i)
	}
	falling := slices.Clone(rising)
	slices.Reverse(falling)
	if b := Bytes(mixed, false); !bytes.Equal(b, rising) {
		t.Errorf("Bytes, the lowest first: %x", b)
	}
	if b := Bytes(mixed, true); !bytes.Equal(b, falling) {
		t.Errorf("Bytes, the highest first: %x", b)
	}
	if a, e := Of(rising, false); a != mixed || e != api.OK {
		t.Errorf("Of, the lowest first: %x, %d", a, e)
	}
	if a, e := Of(falling, true); a != mixed || e != api.OK {
		t.Errorf("Of, the highest first: %x, %d", a, e)
	}
	if b := Bytes(nought, true); !bytes.Equal(b, make([]byte, 32)) {
		t.Errorf("Bytes of nought: %x", b)
	}
}

func TestWhatIsWrittenIsRead(t *testing.T) {
	for _, a := range numbers() {
		high := Bytes(a, true)
		if !bytes.Equal(high, four(a).FillBytes(make([]byte, 32))) {
			t.Fatalf("Bytes(%x, true) = %x", a, high)
		}
		low := Bytes(a, false)
		for i, x := range low {
			if x != high[31-i] {
				t.Fatalf("Bytes(%x, false) = %x", a, low)
			}
		}
		if got, e := Of(high, true); got != a || e != api.OK {
			t.Fatalf("Of(%x, true) = %x, %d", high, got, e)
		}
		if got, e := Of(low, false); got != a || e != api.OK {
			t.Fatalf("Of(%x, false) = %x, %d", low, got, e)
		}
	}
}

func TestOfWrongLengths(t *testing.T) {
	full := bytes.Repeat([]byte{0xff}, 64)
	for _, n := range []int{0, 1, 8, 30, 31, 33, 40, 63, 64} {
		for _, high := range []bool{false, true} {
			if a, e := Of(full[:n], high); a != nought || e != api.ErrArg {
				t.Errorf("Of %d bytes = %x, %d", n, a, e)
			}
		}
	}
	for _, high := range []bool{false, true} {
		if a, e := Of(nil, high); a != nought || e != api.ErrArg {
			t.Errorf("Of nil = %x, %d", a, e)
		}
	}
}

func TestBytesAreNobodyElses(t *testing.T) {
	given := bytes.Repeat([]byte{0xa5}, 33)
	a, _ := Of(given[:32], true)
	if !bytes.Equal(given, bytes.Repeat([]byte{0xa5}, 33)) {
		t.Errorf("Of changed what it was given: %x", given)
	}
	first := Bytes(a, true)
	first[0] = 0
	if second := Bytes(a, true); second[0] != 0xa5 {
		t.Errorf("Bytes handed out one memory twice: %x", second)
	}
}

// P1.4

func TestWhatIsAddedAndTakenAwayIsAsItWas(t *testing.T) {
	pairs(func(a, b api.Four) {
		sum, carry := Add(a, b)
		if back, borrow := Sub(sum, b); back != a || borrow != carry {
			t.Fatalf("%x and %x added, taken away: %x, %d; carried %d", a, b, back, borrow, carry)
		}
		rest, borrow := Sub(a, b)
		if back, carry := Add(rest, b); back != a || carry != borrow {
			t.Fatalf("%x and %x taken away, added: %x, %d; borrowed %d", a, b, back, carry, borrow)
		}
	})
}

// plus is a sum of eight words, and what is carried.
func plus(a, b api.Eight) (sum api.Eight, carry uint64) {
	for i := range sum {
		sum[i], carry = bits.Add64(a[i], b[i], carry)
	}
	return sum, carry
}

// above is a number times 2^256.
func above(a api.Four) api.Eight { return api.Eight{4: a[0], a[1], a[2], a[3]} }

func TestAProductOfASumIsTheSumOfTheProducts(t *testing.T) {
	list := numbers()
	times := []api.Four{nought, one, {2}, {0, 0, 0, 1 << 63}, mixed, top, list[len(list)-1]}
	pairs(func(a, b api.Four) {
		for _, c := range times {
			sum, carry := Add(a, b)
			got, gotCarry := plus(Mul(sum, c), above(Select(carry, c, nought)))
			want, wantCarry := plus(Mul(a, c), Mul(b, c))
			if got != want || gotCarry != wantCarry {
				t.Fatalf("%x and %x, times %x: %x, %d; want %x, %d", a, b, c, got, gotCarry, want, wantCarry)
			}
			if Mul(c, sum) != Mul(sum, c) {
				t.Fatalf("%x times %x isn't as the other way round", c, sum)
			}
		}
	})
}

func TestAProductByAWordIsAProduct(t *testing.T) {
	for _, a := range numbers() {
		for _, w := range []uint64{0, 1, 2, 1 << 63, ones} {
			low, high := MulWord(a, w)
			if want := Mul(a, api.Four{w}); want != (api.Eight{low[0], low[1], low[2], low[3], high}) {
				t.Fatalf("%x times %x: %x, %x; want %x", a, w, low, high, want)
			}
		}
	}
}
