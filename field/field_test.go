package field

import (
	"bytes"
	"math"
	"math/big"
	"math/rand/v2"
	"slices"
	"testing"

	"cleromancy/api"
)

const (
	top  = 1<<52 - 1 // the greatest limb of a tame element
	full = 1<<51 - 1 // the greatest one of 51 bits
)

var (
	nought = api.Fe{}
	one    = api.Fe{1}
	below  = api.Fe{full - 19, full, full, full, full}            // p - 1
	prime  = api.Fe{full - 18, full, full, full, full}            // p
	above  = api.Fe{full - 17, full, full, full, full}            // p + 1
	twice  = api.Fe{top - 37, top - 1, top - 1, top - 1, top - 1} // 2 p
	most   = api.Fe{top, top, top, top, top}                      // above 2 p by more than 2^204
)

func power(n uint) *big.Int { return new(big.Int).Lsh(big.NewInt(1), n) }

func modulus() *big.Int { return new(big.Int).Sub(power(255), big.NewInt(19)) }

// p is the modulus, for reading alone.
var p = modulus()

func modulo(n *big.Int) *big.Int { return new(big.Int).Mod(n, p) }

// number is what an element's limbs stand for, by other means than the package's.
func number(a api.Fe) *big.Int {
	n := new(big.Int)
	for _, limb := range slices.Backward(a[:]) {
		n.Lsh(n, 51)
		n.Add(n, new(big.Int).SetUint64(limb))
	}
	return modulo(n)
}

// element is an element of a number, with limbs of 51 bits.
func element(n *big.Int) api.Fe {
	var a api.Fe
	n = modulo(n)
	for i := range a {
		a[i] = new(big.Int).And(n, big.NewInt(full)).Uint64()
		n.Rsh(n, 51)
	}
	return a
}

// bytesOf are a number's bytes, the lowest first.
func bytesOf(n *big.Int) []byte {
	b := n.FillBytes(make([]byte, 32))
	slices.Reverse(b)
	return b
}

func tame(a api.Fe) bool {
	return !slices.ContainsFunc(a[:], func(limb uint64) bool { return limb > top })
}

// is tells whether an answer is tame and stands for a number.
func is(a api.Fe, n *big.Int) bool {
	return tame(a) && number(a).Cmp(modulo(n)) == 0
}

// of are elements of these limbs alone, in every order: with them carries begin and end in every limb.
func of(limbs ...uint64) []api.Fe {
	list := []api.Fe{{}}
	for i := range 5 {
		var longer []api.Fe
		for _, a := range list {
			for _, limb := range limbs {
				a[i] = limb
				longer = append(longer, a)
			}
		}
		list = longer
	}
	return list
}

// beside are tame elements at, below and above multiples of p, in one form or another, and some that have no pattern; the same in every run.
func beside() []api.Fe {
	list := []api.Fe{nought, one, {2}, {19}, {20}, below, prime, above, most}
	for d := range uint64(38) {
		a := twice
		a[0] += d - 1 // begins at 2 p - 1
		list = append(list, a)
	}
	list = append(list,
		api.Fe{full + 1, full, full, full, full},                // 2^255
		api.Fe{2*full + 1 - 18, full - 1, full, full, full},     // p, with a limb that waits to be carried
		api.Fe{full - 18, full, full, full, 2*full + 1},         // p and 2^255
		api.Fe{0, 0, 0, 0, top}, api.Fe{top}, api.Fe{0, 0, top}, // one limb alone
		api.Fe{0, 0, 0, 0, full + 1}, api.Fe{full + 1})
	return append(list, strange(20)...)
}

// strange are tame elements that have no pattern.
func strange(n int) []api.Fe {
	r := rand.New(rand.NewPCG(9, 10))
	var list []api.Fe
	for range n {
		list = append(list, api.Fe{r.Uint64N(top + 1), r.Uint64N(top + 1), r.Uint64N(top + 1), r.Uint64N(top + 1), r.Uint64N(top + 1)})
	}
	return list
}

// all are what a call of one element is tried with.
func all() []api.Fe { return slices.Concat(of(0, 1, full, full+1, top), beside(), strange(200)) }

// some are fewer of these, for pairs.
func some() []api.Fe { return slices.Concat(of(0, full, top), beside()) }

// few are those that tell most, for three of them at a time, and for roots and powers.
func few() []api.Fe {
	return append([]api.Fe{nought, one, {2}, {4}, {5}, {0, 1}, below, prime, above, twice, most, {top, 0, top, 0, top}}, strange(4)...)
}

// pairs goes through all pairs of a list.
func pairs(list []api.Fe, look func(a, b api.Fe)) {
	for _, a := range list {
		for _, b := range list {
			look(a, b)
		}
	}
}

// triples goes through all triples of a few.
func triples(look func(a, b, c api.Fe)) {
	for _, a := range few() {
		pairs(few(), func(b, c api.Fe) { look(a, b, c) })
	}
}

// What the tests themselves stand on

func TestElementsOfTheTests(t *testing.T) {
	for _, a := range slices.Concat(all(), some(), few()) {
		if !tame(a) {
			t.Fatalf("%x isn't tame", a)
		}
	}
	for _, x := range []struct {
		a    api.Fe
		want int64
	}{{nought, 0}, {prime, 0}, {above, 1}, {twice, 0}, {api.Fe{full + 1, full, full, full, full}, 19}, {api.Fe{2*full + 1 - 18, full - 1, full, full, full}, 0}, {api.Fe{full - 18, full, full, full, 2*full + 1}, 19}} {
		if n := number(x.a); n.Cmp(big.NewInt(x.want)) != 0 {
			t.Errorf("%x stands for %v; want %d", x.a, n, x.want)
		}
	}
}

// P4.1

func TestOfExamples(t *testing.T) {
	for _, x := range []struct {
		n    *big.Int
		want api.Fe
		ok   bool
	}{
		{big.NewInt(0), nought, true},
		{big.NewInt(1), one, true},
		{power(51), api.Fe{0, 1}, true},
		{power(102), api.Fe{0, 0, 1}, true},
		{power(153), api.Fe{0, 0, 0, 1}, true},
		{power(204), api.Fe{0, 0, 0, 0, 1}, true},
		{power(254), api.Fe{0, 0, 0, 0, 1 << 50}, true},
		{new(big.Int).Sub(p, big.NewInt(1)), below, true},
		{p, nought, false},
		{new(big.Int).Add(p, big.NewInt(1)), nought, false},
		{new(big.Int).Sub(power(255), big.NewInt(1)), nought, false},
		{power(255), nought, false},
		{new(big.Int).Add(power(255), big.NewInt(1)), nought, false},
		{new(big.Int).Sub(power(256), big.NewInt(20)), nought, false}, // p - 1, with the highest bit
		{new(big.Int).Lsh(p, 1), nought, false},
		{new(big.Int).Sub(power(256), big.NewInt(1)), nought, false},
	} {
		if a, ok := Of(bytesOf(x.n)); !Same(a, x.want) || !tame(a) || ok != x.ok || !ok && a != nought {
			t.Errorf("Of(%x) = %x, %t; want %x, %t", x.n, a, ok, x.want, x.ok)
		}
	}
}

func TestOfWrongLengths(t *testing.T) {
	for _, n := range []int{0, 1, 31, 33, 64, 1000} {
		for _, c := range []byte{0, 1, 0xff} {
			if a, ok := Of(bytes.Repeat([]byte{c}, n)); a != nought || ok {
				t.Errorf("Of of %d bytes of %x = %x, %t", n, c, a, ok)
			}
		}
	}
	if a, ok := Of(nil); a != nought || ok {
		t.Errorf("Of(nil) = %x, %t", a, ok)
	}
}

func TestOfNumbersBesideTheModulus(t *testing.T) {
	for d := range int64(101) {
		for _, middle := range []*big.Int{p, power(255)} {
			n := new(big.Int).Add(middle, big.NewInt(d-50))
			a, ok := Of(bytesOf(n))
			if ok != (n.Cmp(p) < 0) || ok && !is(a, n) || !ok && a != nought {
				t.Errorf("Of(%x) = %x, %t", n, a, ok)
			}
		}
	}
}

func TestOfEachBit(t *testing.T) {
	for i := range uint(256) {
		n := power(i)
		a, ok := Of(bytesOf(n))
		if ok != (i < 255) || ok && !is(a, n) || !ok && a != nought {
			t.Errorf("Of(2^%d) = %x, %t", i, a, ok)
		}
	}
}

func TestOfBytes(t *testing.T) {
	for _, a := range all() {
		b := Bytes(a)
		kept := bytes.Clone(b)
		if got, ok := Of(b); !ok || !is(got, number(a)) {
			t.Fatalf("Of(%x) = %x, %t", b, got, ok)
		}
		if !bytes.Equal(b, kept) {
			t.Fatalf("Of changed %x into %x", kept, b)
		}
	}
}

func TestWideExamples(t *testing.T) {
	ones := bytes.Repeat([]byte{0xff}, 64)
	for _, x := range []struct {
		b    []byte
		want api.Fe
	}{
		{nil, nought},
		{[]byte{}, nought},
		{[]byte{0}, nought},
		{[]byte{5}, api.Fe{5}},
		{[]byte{1, 2}, api.Fe{258}},
		{make([]byte, 64), nought},
		{append(make([]byte, 63), 7), api.Fe{7}},
		{append([]byte{1}, make([]byte, 32)...), api.Fe{38}},       // 2^256
		{append([]byte{0x80}, make([]byte, 31)...), api.Fe{19}},    // 2^255
		{ones[:32], api.Fe{37}},                                    // 2^256 - 1
		{ones[:33], api.Fe{256*38 - 1}},                            // 2^264 - 1
		{ones, api.Fe{38*38 - 1}},                                  // 2^512 - 1
		{append(append([]byte{0x7f}, ones[:30]...), 0xec), below},  // p - 1
		{append(append([]byte{0x7f}, ones[:30]...), 0xed), nought}, // p
		{append(append([]byte{0x7f}, ones[:30]...), 0xee), one},    // p + 1
		{append(append(append([]byte{0x7f}, ones[:30]...), 0xed), make([]byte, 32)...), nought}, // p 2^256
	} {
		if a, ok := Wide(x.b); !ok || !tame(a) || !Same(a, x.want) {
			t.Errorf("Wide(%x) = %x, %t; want %x", x.b, a, ok, x.want)
		}
	}
}

func TestWideOfAllLengths(t *testing.T) {
	r := rand.New(rand.NewPCG(11, 12))
	for n := range 65 {
		mixed := make([]byte, n)
		for i := range mixed {
			mixed[i] = byte(r.Uint32())
		}
		first := make([]byte, n)
		if n > 0 {
			first[0] = 0xff
		}
		for _, b := range [][]byte{mixed, first, make([]byte, n), bytes.Repeat([]byte{0xff}, n)} {
			kept := bytes.Clone(b)
			if a, ok := Wide(b); !ok || !is(a, new(big.Int).SetBytes(b)) {
				t.Errorf("Wide(%x) = %x, %t", b, a, ok)
			}
			if !bytes.Equal(b, kept) {
				t.Errorf("Wide changed %x into %x", kept, b)
			}
		}
	}
}

func TestWideOfTooMany(t *testing.T) {
	for _, n := range []int{65, 66, 96, 128, 1000} {
		for _, c := range []byte{0, 1, 0xff} {
			if a, ok := Wide(bytes.Repeat([]byte{c}, n)); a != nought || ok {
				t.Errorf("Wide of %d bytes of %x = %x, %t", n, c, a, ok)
			}
		}
	}
}

func TestBytesExamples(t *testing.T) {
	minusOne := append(append([]byte{0xec}, bytes.Repeat([]byte{0xff}, 30)...), 0x7f)
	for _, x := range []struct {
		a    api.Fe
		want []byte
	}{
		{nought, make([]byte, 32)},
		{prime, make([]byte, 32)},
		{twice, make([]byte, 32)},
		{one, append([]byte{1}, make([]byte, 31)...)},
		{above, append([]byte{1}, make([]byte, 31)...)},
		{api.Fe{0x0201}, append([]byte{1, 2}, make([]byte, 30)...)},
		{below, minusOne},
	} {
		if got := Bytes(x.a); !bytes.Equal(got, x.want) {
			t.Errorf("Bytes(%x) = %x; want %x", x.a, got, x.want)
		}
	}
}

func TestBytes(t *testing.T) {
	for _, a := range all() {
		if got := Bytes(a); !bytes.Equal(got, bytesOf(number(a))) {
			t.Fatalf("Bytes(%x) = %x", a, got)
		}
	}
}

func TestBytesAreNewMemory(t *testing.T) {
	first := Bytes(one)
	first[0] = 9
	if got := Bytes(one); got[0] != 1 {
		t.Errorf("Bytes(1) = %x, once its last answer was written into", got)
	}
}

func TestSmall(t *testing.T) {
	for _, n := range []uint32{0, 1, 2, 255, 256, 121666, math.MaxInt32, math.MaxInt32 + 1, math.MaxUint32} {
		if got := Small(n); !is(got, big.NewInt(int64(n))) {
			t.Errorf("Small(%d) = %x", n, got)
		}
	}
}

// P4.2

func TestSums(t *testing.T) {
	pairs(some(), func(a, b api.Fe) {
		x, y := number(a), number(b)
		if got := Add(a, b); !is(got, new(big.Int).Add(x, y)) {
			t.Fatalf("Add(%x, %x) = %x", a, b, got)
		}
		if got := Sub(a, b); !is(got, new(big.Int).Sub(x, y)) {
			t.Fatalf("Sub(%x, %x) = %x", a, b, got)
		}
	})
}

func TestSumsExamples(t *testing.T) {
	for _, x := range []struct{ got, want api.Fe }{
		{Add(api.Fe{2}, api.Fe{3}), api.Fe{5}},
		{Add(below, one), nought},
		{Add(below, below), Sub(nought, api.Fe{2})},
		{Sub(api.Fe{5}, api.Fe{3}), api.Fe{2}},
		{Sub(api.Fe{3}, api.Fe{5}), api.Fe{full - 20, full, full, full, full}},
		{Sub(nought, one), below},
		{Sub(nought, below), one},
		{Neg(nought), nought},
		{Neg(one), below},
		{Neg(prime), nought},
		{Mul(api.Fe{6}, api.Fe{7}), api.Fe{42}},
		{Mul(below, below), one},
		{Mul(api.Fe{0, 0, 0, 0, 1}, api.Fe{0, 1}), api.Fe{19}},
		{Mul(api.Fe{0, 0, 0, 0, 1}, api.Fe{0, 0, 0, 0, 1}), api.Fe{0, 0, 0, 19}},
	} {
		if !Same(x.got, x.want) {
			t.Errorf("%x; want %x", x.got, x.want)
		}
	}
}

func TestNeg(t *testing.T) {
	for _, a := range all() {
		if got := Neg(a); !is(got, new(big.Int).Neg(number(a))) {
			t.Fatalf("Neg(%x) = %x", a, got)
		}
	}
}

func TestMul(t *testing.T) {
	pairs(some(), func(a, b api.Fe) {
		if got := Mul(a, b); !is(got, new(big.Int).Mul(number(a), number(b))) {
			t.Fatalf("Mul(%x, %x) = %x", a, b, got)
		}
	})
}

func TestSquareOnce(t *testing.T) {
	for _, a := range all() {
		n := number(a)
		if got := Square(a, 1); !is(got, new(big.Int).Mul(n, n)) {
			t.Fatalf("Square(%x, 1) = %x", a, got)
		}
	}
}

func TestSquareOften(t *testing.T) {
	for _, a := range few() {
		for _, n := range []int{1, 2, 3, 5, 10, 255, 256, 999, 1000} {
			if got := Square(a, n); !is(got, new(big.Int).Exp(number(a), power(uint(n)), p)) {
				t.Errorf("Square(%x, %d) = %x", a, n, got)
			}
		}
	}
}

func TestSquareAtMostAThousandTimes(t *testing.T) {
	for _, a := range few() {
		want := new(big.Int).Exp(number(a), power(1000), p)
		for _, n := range []int{1001, 1002, 2000, math.MaxInt32, math.MaxInt - 1, math.MaxInt} {
			if got := Square(a, n); !is(got, want) {
				t.Errorf("Square(%x, %d) = %x", a, n, got)
			}
		}
	}
}

func TestSquareNotAtAll(t *testing.T) {
	for _, a := range few() {
		for _, n := range []int{0, -1, -1000, -1001, math.MinInt32, math.MinInt} {
			if got := Square(a, n); !is(got, number(a)) {
				t.Errorf("Square(%x, %d) = %x", a, n, got)
			}
		}
	}
}

func TestInv(t *testing.T) {
	for _, a := range some() {
		want := new(big.Int).ModInverse(number(a), p)
		if want == nil {
			want = new(big.Int)
		}
		if got := Inv(a); !is(got, want) {
			t.Fatalf("Inv(%x) = %x", a, got)
		}
	}
}

func TestInvOfNought(t *testing.T) {
	for _, a := range []api.Fe{nought, prime, twice, Neg(nought), Sub(most, most)} {
		if got := Inv(a); !is(got, new(big.Int)) {
			t.Errorf("Inv(%x) = %x", a, got)
		}
	}
}

// P4.3

func TestRootExamples(t *testing.T) {
	imaginary := new(big.Int).ModSqrt(big.NewInt(-1), p)
	if imaginary.Bit(0) == 1 {
		imaginary.Sub(p, imaginary)
	}
	for _, x := range []struct {
		u, v, want api.Fe
		ok         bool
	}{
		{api.Fe{4}, one, api.Fe{2}, true},
		{api.Fe{16}, api.Fe{4}, api.Fe{2}, true},
		{api.Fe{36}, one, api.Fe{6}, true},
		{one, one, below, true}, // 1 is odd, p - 1 is even
		{api.Fe{9}, one, api.Fe{full - 21, full, full, full, full}, true},
		{below, one, element(imaginary), true},
		{one, below, element(imaginary), true},
		{api.Fe{2}, one, nought, false},
		{one, api.Fe{2}, nought, false},
		{api.Fe{2}, api.Fe{2}, below, true},
		{nought, one, nought, true},
		{nought, api.Fe{2}, nought, true},
		{prime, api.Fe{2}, nought, true},
		{nought, nought, nought, true},
		{prime, twice, nought, true},
		{one, nought, nought, false},
		{api.Fe{2}, nought, nought, false},
		{below, prime, nought, false},
		{most, twice, nought, false},
	} {
		got, ok := Root(x.u, x.v)
		if !tame(got) || !Same(got, x.want) || ok != x.ok || !ok && got != nought {
			t.Errorf("Root(%x, %x) = %x, %t; want %x, %t", x.u, x.v, got, ok, x.want, x.ok)
		}
	}
}

// rootOf says by other means what Root has to answer.
func rootOf(u, v *big.Int) (*big.Int, bool) {
	if u.Sign() == 0 {
		return new(big.Int), true
	}
	if v.Sign() == 0 {
		return nil, false
	}
	x := new(big.Int).ModInverse(v, p)
	x = new(big.Int).ModSqrt(modulo(x.Mul(x, u)), p)
	if x == nil {
		return nil, false
	}
	if x.Bit(0) == 1 {
		x.Sub(p, x)
	}
	return x, true
}

func TestRoot(t *testing.T) {
	with, without := 0, 0
	look := func(u, v api.Fe) {
		want, ok := rootOf(number(u), number(v))
		got, found := Root(u, v)
		if found != ok || ok && !is(got, want) || !ok && got != nought {
			t.Fatalf("Root(%x, %x) = %x, %t; want %v, %t", u, v, got, found, want, ok)
		}
		if ok {
			with++
		} else {
			without++
		}
	}
	pairs(slices.Concat(few(), strange(40)), look)
	for _, a := range some() {
		look(a, one)
		look(one, a)
		look(Square(a, 1), api.Fe{4})
		look(Neg(Square(a, 1)), api.Fe{9})
	}
	if with < 1000 || without < 1000 {
		t.Errorf("%d pairs with a root, %d without", with, without)
	}
}

func TestNegative(t *testing.T) {
	for _, x := range []struct {
		a    api.Fe
		want bool
	}{{nought, false}, {one, true}, {api.Fe{2}, false}, {below, false}, {prime, false}, {above, true}, {twice, false}, {api.Fe{0, 1}, false}, {api.Fe{0, 0, 0, 0, full + 1}, true}} {
		if got := Negative(x.a); got != x.want {
			t.Errorf("Negative(%x) = %t", x.a, got)
		}
	}
	for _, a := range all() {
		if got := Negative(a); got != (number(a).Bit(0) == 1) {
			t.Fatalf("Negative(%x) = %t", a, got)
		}
	}
}

func TestSame(t *testing.T) {
	pairs(some(), func(a, b api.Fe) {
		if got := Same(a, b); got != (number(a).Cmp(number(b)) == 0) {
			t.Fatalf("Same(%x, %x) = %t", a, b, got)
		}
	})
}

func TestSameOfOneNumberInSeveralForms(t *testing.T) {
	for _, x := range []struct{ a, b api.Fe }{
		{nought, prime}, {nought, twice}, {prime, twice}, {one, above},
		{api.Fe{full + 1}, api.Fe{0, 1}}, {api.Fe{0, 0, 0, 0, full + 1}, api.Fe{19}},
		{api.Fe{36, 1, 1, 1, 1}, api.Fe{top - 1, top, top, top, top}},
	} {
		if !Same(x.a, x.b) || !Same(x.b, x.a) {
			t.Errorf("%x and %x aren't the same", x.a, x.b)
		}
	}
	for i := range 5 {
		a := most
		a[i]--
		if Same(a, most) {
			t.Errorf("%x and %x are the same", a, most)
		}
	}
}

func TestSelect(t *testing.T) {
	pairs(few(), func(a, b api.Fe) {
		for _, c := range []uint64{1, 3, 1<<63 + 1, math.MaxUint64} {
			if got := Select(c, a, b); got != a {
				t.Errorf("Select(%d, %x, %x) = %x", c, a, b, got)
			}
		}
		for _, c := range []uint64{0, 2, 1 << 63, math.MaxUint64 - 1} {
			if got := Select(c, a, b); got != b {
				t.Errorf("Select(%d, %x, %x) = %x", c, a, b, got)
			}
		}
	})
}

// P4.4

func TestLawsOfThree(t *testing.T) {
	triples(func(a, b, c api.Fe) {
		if !Same(Add(Add(a, b), c), Add(a, Add(b, c))) {
			t.Errorf("sums of %x, %x, %x", a, b, c)
		}
		if !Same(Mul(Mul(a, b), c), Mul(a, Mul(b, c))) {
			t.Errorf("products of %x, %x, %x", a, b, c)
		}
		if !Same(Mul(a, Add(b, c)), Add(Mul(a, b), Mul(a, c))) {
			t.Errorf("%x times the sum of %x, %x", a, b, c)
		}
	})
}

func TestLawsOfTwo(t *testing.T) {
	pairs(slices.Concat(few(), beside()), func(a, b api.Fe) {
		if !Same(Add(a, b), Add(b, a)) || !Same(Mul(a, b), Mul(b, a)) {
			t.Errorf("%x and %x the other way round", a, b)
		}
		if !Same(Sub(a, b), Neg(Sub(b, a))) || !Same(Sub(a, b), Add(a, Neg(b))) || !Same(Add(Sub(a, b), b), a) {
			t.Errorf("%x less %x", a, b)
		}
		if !Same(Mul(Neg(a), b), Neg(Mul(a, b))) {
			t.Errorf("%x, taken from nought, times %x", a, b)
		}
		if Same(Mul(a, b), nought) != (Same(a, nought) || Same(b, nought)) {
			t.Errorf("%x times %x, and nought", a, b)
		}
	})
}

func TestLawsOfOne(t *testing.T) {
	for _, a := range all() {
		if !Same(Add(a, nought), a) || !Same(Mul(a, one), a) || !Same(Mul(a, nought), nought) || !Same(Add(a, Neg(a)), nought) || !Same(Neg(Neg(a)), a) || !Same(Square(a, 1), Mul(a, a)) {
			t.Fatalf("laws of %x", a)
		}
		if Same(a, nought) {
			continue
		}
		if Negative(a) == Negative(Neg(a)) {
			t.Fatalf("%x and what it leaves of nought are alike", a)
		}
		if !Same(Mul(a, Inv(a)), one) || !Same(Inv(Inv(a)), a) {
			t.Fatalf("what %x is 1 by", a)
		}
	}
}

func TestRootsSquare(t *testing.T) {
	pairs(slices.Concat(few(), strange(30)), func(u, v api.Fe) {
		x, ok := Root(u, v)
		if ok && (!Same(Mul(Square(x, 1), v), u) || Negative(x)) {
			t.Errorf("Root(%x, %x) = %x", u, v, x)
		}
	})
	for _, a := range some() {
		x, ok := Root(Square(a, 1), one)
		if !ok || !Same(x, a) && !Same(x, Neg(a)) {
			t.Fatalf("Root of the square of %x = %x, %t", a, x, ok)
		}
	}
}

// What is answered may come in again, for as long as one likes.
func TestAnswersStayTame(t *testing.T) {
	for _, a := range few() {
		x, n := a, number(a)
		for i := range 200 {
			y := Sub(Mul(x, a), Add(x, most))
			m := new(big.Int).Sub(new(big.Int).Mul(n, number(a)), new(big.Int).Add(n, number(most)))
			x, n = Neg(y), modulo(m.Neg(m))
			if !is(x, n) {
				t.Fatalf("from %x, step %d: %x", a, i, x)
			}
		}
	}
}

// Rule 1: of elements that aren't tame, every call ends.
func TestWhatIsNotTameEnds(t *testing.T) {
	pairs([]api.Fe{{top + 1}, {0, 0, 0, 0, math.MaxUint64}, {math.MaxUint64, math.MaxUint64, math.MaxUint64, math.MaxUint64, math.MaxUint64}, {1 << 63, 1, 1 << 63, 1, 1 << 63}, one}, func(a, b api.Fe) {
		Add(a, b)
		Sub(a, b)
		Mul(a, b)
		Root(a, b)
		Same(a, b)
		Select(1, a, b)
		Neg(a)
		Square(a, math.MaxInt)
		Inv(a)
		Negative(a)
		Bytes(a)
	})
}
