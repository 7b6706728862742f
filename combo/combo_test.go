package combo_test

import (
	"bytes"
	"crypto/ed25519"
	"crypto/sha512"
	"encoding/binary"
	"encoding/hex"
	"fmt"
	"math/big"
	"math/rand/v2"
	"slices"
	"testing"

	"cleromancy/api"
	"cleromancy/combo"
	"cleromancy/edwards"
)

// The chapter's words, by layer 10's sums alone, and by math/big.

func n(k int64) *big.Int { return big.NewInt(k) }

// power is 2^k.
func power(k uint) *big.Int { return new(big.Int).Lsh(n(1), k) }

func plus(a, b *big.Int) *big.Int  { return new(big.Int).Add(a, b) }
func times(a, b *big.Int) *big.Int { return new(big.Int).Mul(a, b) }

// order is L, as the chapter writes it; for reading alone.
var order = plus(power(252), decimal("27742317777372353535851937790883648493"))

func decimal(text string) *big.Int {
	a, ok := new(big.Int).SetString(text, 10)
	if !ok {
		panic(text)
	}
	return a
}

// four is a number below 2^256, in words.
func four(a *big.Int) (words api.Four) {
	b := a.FillBytes(make([]byte, 32))
	for i := range words {
		words[i] = binary.BigEndian.Uint64(b[24-8*i:])
	}
	return words
}

// number is what words stand for.
func number(words api.Four) *big.Int {
	sum := new(big.Int)
	for _, word := range slices.Backward(words[:]) {
		sum.Lsh(sum, 64)
		sum.Add(sum, new(big.Int).SetUint64(word))
	}
	return sum
}

// added is k times a point, added up one by one.
func added(k uint64, p edwards.Point) edwards.Point {
	sum := edwards.Zero()
	for range k {
		sum = sum.Add(p)
	}
	return sum
}

// doubled is k times a point, bit by bit, the lowest first.
func doubled(k api.Four, p edwards.Point) edwards.Point {
	sum := edwards.Zero()
	for _, word := range k {
		for i := range 64 {
			if word>>i&1 == 1 {
				sum = sum.Add(p)
			}
			p = p.Double()
		}
	}
	return sum
}

// strange is a number below 2^256 without a pattern; the same in every run, another for each seed.
func strange(seed uint64) api.Four {
	r := rand.New(rand.NewPCG(11, seed))
	return api.Four{r.Uint64(), r.Uint64(), r.Uint64(), r.Uint64()}
}

// check holds a point against what it has to be, by all that can be asked of it: sums too, since a point may have more to it than its bytes show.
func check(t *testing.T, got, want edwards.Point, what string, parts ...any) {
	t.Helper()
	base := edwards.Base()
	switch {
	case !got.Same(want) || !want.Same(got) || !bytes.Equal(got.Bytes(), want.Bytes()):
		t.Errorf(what+": %x; want %x", append(parts, got.Bytes(), want.Bytes())...)
	case !got.Add(base).Same(want.Add(base)) || !got.Double().Same(want.Double()):
		t.Errorf(what+": the same bytes, other sums", parts...)
	}
}

// What the tests go through.

// sample is a point: so many times the base, and so many times a point of the order eight.
type sample struct {
	name  string
	base  *big.Int
	eight int64
	point edwards.Point
}

// multiple is what k times a sample has to be, in words that lean on no multiple but that of the base modulo L, and that of a small point modulo eight.
func (s sample) multiple(t *testing.T, k *big.Int) edwards.Point {
	t.Helper()
	whole := new(big.Int).Mod(times(k, s.base), order)
	rest := new(big.Int).Mod(times(k, n(s.eight)), n(8)).Int64()
	return doubled(four(whole), edwards.Base()).Add(smalls(t)[rest])
}

// smalls are 0 to 7 times a point of the order eight, by the bytes that are published of them.
func smalls(t *testing.T) []edwards.Point {
	t.Helper()
	var all []edwards.Point
	for _, digits := range []string{
		"0100000000000000000000000000000000000000000000000000000000000000",
		"26e8958fc2b227b045c3f489f2ef98f0d5dfac05d3c63339b13802886d53fc05",
		"0000000000000000000000000000000000000000000000000000000000000000",
		"c7176a703d4dd84fba3c0b760d10670f2a2053fa2c39ccc64ec7fd7792ac037a",
		"ecffffffffffffffffffffffffffffffffffffffffffffffffffffffffffff7f",
		"c7176a703d4dd84fba3c0b760d10670f2a2053fa2c39ccc64ec7fd7792ac03fa",
		"0000000000000000000000000000000000000000000000000000000000000080",
		"26e8958fc2b227b045c3f489f2ef98f0d5dfac05d3c63339b13802886d53fc85",
	} {
		all = append(all, point(t, digits))
	}
	return all
}

// point is the point of bytes in hexadecimal.
func point(t *testing.T, digits string) edwards.Point {
	t.Helper()
	b, err := hex.DecodeString(digits)
	if err != nil {
		t.Fatal(err)
	}
	p, ok := edwards.Of(b)
	if !ok {
		t.Fatalf("%s: no point", digits)
	}
	return p
}

// samples are the base, nought, the small points, multiples of the base, and sums of both.
func samples(t *testing.T) []sample {
	t.Helper()
	all := []sample{{"the base", n(1), 0, edwards.Base()}, {"nought", n(0), 0, edwards.Zero()}}
	few := smalls(t)
	for i := int64(1); i < 8; i++ {
		all = append(all, sample{fmt.Sprintf("%d times one of order eight", i), n(0), i, few[i]})
	}
	for i, k := range []*big.Int{plus(order, n(-1)), n(2), number(strange(1)), number(strange(2))} {
		p := doubled(four(k), edwards.Base())
		all = append(all, sample{fmt.Sprintf("%d times the base", k), k, 0, p})
		for _, of := range []int64{1, 2, 4, 7}[i%2*2:][:2] {
			name := fmt.Sprintf("%d times the base, and %d times one of order eight", k, of)
			all = append(all, sample{name, k, of, p.Add(few[of])})
		}
	}
	for i := int64(1); i < 8; i++ {
		all = append(all, sample{fmt.Sprintf("the base and %d times one of order eight", i), n(1), i, edwards.Base().Add(few[i])})
	}
	return all
}

// edges are the numbers at which words, groups of bits, and the order end.
func edges() []*big.Int {
	all := []*big.Int{n(0), n(1), n(2), n(3), n(7), n(8), n(9), n(15), n(16), n(17), n(31), n(32), n(240), n(255), n(256), n(257)}
	for _, k := range []int64{1, 2, 4, 8, 15} {
		some := times(order, n(k))
		all = append(all, plus(some, n(-1)), some, plus(some, n(1)))
	}
	for _, k := range []uint{60, 63, 64, 124, 128, 188, 192, 251, 252, 253, 254, 255, 256} {
		if k < 256 {
			all = append(all, power(k), plus(power(k), n(1)))
		}
		all = append(all, plus(power(k), n(-1)))
	}
	return append(all, plus(power(256), n(-16)), plus(power(256), n(-2)))
}

// lone are numbers in which one word alone isn't 0.
func lone() []*big.Int {
	var all []*big.Int
	for i := range 4 {
		for _, word := range []uint64{1, 1 << 63, 1<<64 - 1, 0xf0f0f0f0f0f0f0f0, 0x0f0f0f0f0f0f0f0f, strange(3)[i]} {
			var k api.Four
			k[i] = word
			all = append(all, number(k))
		}
	}
	return all
}

// The tests' own words hold by themselves.
func TestWordsOfTheTests(t *testing.T) {
	if !order.ProbablyPrime(20) || times(order, n(15)).Cmp(power(256)) >= 0 || times(order, n(16)).Cmp(power(256)) < 0 {
		t.Error("the order")
	}
	for _, k := range slices.Concat(edges(), lone()) {
		if number(four(k)).Cmp(k) != 0 {
			t.Errorf("%d in words: %x", k, four(k))
		}
	}
	few := smalls(t)
	for i := range few {
		check(t, few[1].Add(few[i]), few[(i+1)%8], "%d and 1 times one of order eight", i)
	}
	for _, s := range samples(t) {
		check(t, s.multiple(t, n(1)), s.point, "%s, once", s.name)
		check(t, s.multiple(t, n(21)), added(21, s.point), "%s, 21 times", s.name)
		check(t, doubled(api.Four{21}, s.point), added(21, s.point), "%s, 21 times, bit by bit", s.name)
	}
}

// P11.1: Order

func TestOrder(t *testing.T) {
	if got := combo.Order(); number(got).Cmp(order) != 0 {
		t.Errorf("%d; want %d", number(got), order)
	}
	// RFC 8032, 5.1.
	if got := fmt.Sprintf("%x", number(combo.Order())); got != "1000000000000000000000000000000014def9dea2f79cd65812631a5cf5d3ed" {
		t.Error(got)
	}
	got := combo.Order()
	clear(got[:])
	if number(combo.Order()).Cmp(order) != 0 {
		t.Error("a later call tells of what was written into the answer")
	}
}

// P11.1: Mul

func TestMulOfFew(t *testing.T) {
	for _, s := range samples(t) {
		for k := range uint64(40) {
			check(t, combo.Mul(api.Four{k}, s.point), added(k, s.point), "%d times %s", k, s.name)
		}
	}
	sum := edwards.Zero()
	for k := range uint64(600) {
		check(t, combo.Mul(api.Four{k}, edwards.Base()), sum, "%d times the base", k)
		sum = sum.Add(edwards.Base())
	}
}

func TestMulAtEdges(t *testing.T) {
	t.Parallel()
	for _, s := range samples(t) {
		for _, k := range slices.Concat(edges(), lone()) {
			got := combo.Mul(four(k), s.point)
			check(t, got, doubled(four(k), s.point), "%d times %s", k, s.name)
			check(t, got, s.multiple(t, k), "%d times %s, modulo the orders", k, s.name)
		}
	}
}

func TestMulOfStrangeNumbers(t *testing.T) {
	for i, s := range samples(t) {
		for j := range uint64(10) {
			k := strange(100 + 10*uint64(i) + j)
			got := combo.Mul(k, s.point)
			check(t, got, doubled(k, s.point), "%x times %s", k, s.name)
			check(t, got, s.multiple(t, number(k)), "%x times %s, modulo the orders", k, s.name)
		}
	}
}

// One group of four bits alone: each group, each value of it.
func TestMulOfOneGroup(t *testing.T) {
	t.Parallel()
	all := samples(t)
	for i, s := range all {
		p := s.point
		for group := range 64 {
			var k api.Four
			for bits := range uint64(16) {
				// All values with the base and its sum with a small point; else some.
				if i == 0 || i == len(all)-1 || (int(bits)+group+i)%5 == 0 {
					k[group/16] = bits << (group % 16 * 4)
					check(t, combo.Mul(k, s.point), added(bits, p), "%x times %s", k, s.name)
				}
			}
			p = p.Double().Double().Double().Double()
		}
	}
}

// One group of four bits alone that's 0, or less than all ones.
func TestMulOfAllGroupsButOne(t *testing.T) {
	all := samples(t)
	for _, s := range []sample{all[0], all[2], all[len(all)-1]} {
		for group := range 64 {
			for _, bits := range []uint64{1, 8, 15} {
				k := api.Four{1<<64 - 1, 1<<64 - 1, 1<<64 - 1, 1<<64 - 1}
				k[group/16] ^= bits << (group % 16 * 4)
				check(t, combo.Mul(k, s.point), doubled(k, s.point), "%x times %s", k, s.name)
			}
		}
	}
}

func TestMulByEight(t *testing.T) {
	for _, s := range samples(t) {
		check(t, combo.Mul(api.Four{8}, s.point), s.point.Eight(), "8 times %s", s.name)
	}
}

// Points that came by Mul, rather than from bytes or one sum.
func TestMulOfMultiples(t *testing.T) {
	half := new(big.Int).Rsh(number(strange(400)), 128)
	for _, s := range samples(t) {
		for _, x := range [][2]*big.Int{
			{n(0), half}, {half, n(0)}, {n(1), half}, {half, n(1)}, {n(16), half}, {order, n(15)}, {n(15), order},
			{power(64), half}, {power(128), half}, {half, half}, {plus(power(128), n(-1)), plus(power(128), n(1))},
		} {
			got := combo.Mul(four(x[1]), combo.Mul(four(x[0]), s.point))
			check(t, got, combo.Mul(four(times(x[0], x[1])), s.point), "%d times %d times %s", x[1], x[0], s.name)
		}
	}
}

// P11.1: Base

func TestBase(t *testing.T) {
	numbers := slices.Concat(edges(), lone())
	for i := range uint64(30) {
		numbers = append(numbers, number(strange(500+i)))
	}
	for _, k := range numbers {
		got := combo.Base(four(k))
		check(t, got, combo.Mul(four(k), edwards.Base()), "%d times the base", k)
		check(t, got, doubled(four(k), edwards.Base()), "%d times the base, bit by bit", k)
	}
	for k := range uint64(50) {
		check(t, combo.Base(api.Four{k}), added(k, edwards.Base()), "%d times the base", k)
	}
}

// number25519 is the number that Ed25519 makes of a secret.
func number25519(secret []byte) (k api.Four) {
	sum := sha512.Sum512(secret)
	sum[0] &= 0xf8
	sum[31] = sum[31]&0x7f | 0x40
	for i := range k {
		k[i] = binary.LittleEndian.Uint64(sum[8*i:])
	}
	return k
}

func TestBaseMakesPublicKeys(t *testing.T) {
	// RFC 8032, 7.1.
	for _, x := range [][2]string{
		{"9d61b19deffd5a60ba844af492ec2cc44449c5697b326919703bac031cae7f60", "d75a980182b10ab7d54bfed3c964073a0ee172f3daa62325af021a68f707511a"},
		{"4ccd089b28ff96da9db6c346ec114e0f5b8a319f35aba624da8cf6ed4fb8a6fb", "3d4017c3e843895a92b70aa74d1b7ebc9c982ccf2ec4968cc0cd55f12af4660c"},
		{"c5aa8df43f9f837bedb7442f31dcb7b166d38535076f094b85ce3a2e0b4458f7", "fc51cd8e6218a1a38da47ed00230f0580816ed13ba3303ac5deb911548908025"},
	} {
		secret, err := hex.DecodeString(x[0])
		if err != nil {
			t.Fatal(err)
		}
		if got := hex.EncodeToString(combo.Base(number25519(secret)).Bytes()); got != x[1] {
			t.Errorf("%s: %s; want %s", x[0], got, x[1])
		}
	}
	for i := range uint64(30) {
		secret := number(strange(600 + i)).FillBytes(make([]byte, 32))
		want := ed25519.NewKeyFromSeed(secret).Public().(ed25519.PublicKey)
		if got := combo.Base(number25519(secret)).Bytes(); !bytes.Equal(got, want) {
			t.Errorf("%x: %x; want %x", secret, got, want)
		}
	}
}

// P11.1: Both

// pairs are points that come together: some with themselves, with their other sides, with nought, with others.
func pairs(t *testing.T) [][2]sample {
	t.Helper()
	other := func(s sample) sample {
		return sample{"the other side of " + s.name, new(big.Int).Neg(s.base), -s.eight, s.point.Neg()}
	}
	all := samples(t)
	base, nought, last := all[0], all[1], all[len(all)-1]
	var found [][2]sample
	for i, s := range all {
		next := all[(i+5)%len(all)]
		found = append(found, [2]sample{s, s}, [2]sample{s, other(s)}, [2]sample{s, nought}, [2]sample{nought, s}, [2]sample{s, next})
		found = append(found, [2]sample{s, base}, [2]sample{base, s}, [2]sample{s, last}, [2]sample{other(s), next})
	}
	return found
}

func both(t *testing.T, a, b *big.Int, two [2]sample) {
	t.Helper()
	p, q := two[0], two[1]
	got := combo.Both(four(a), p.point, four(b), q.point)
	want := combo.Mul(four(a), p.point).Add(combo.Mul(four(b), q.point))
	check(t, got, want, "%d times %s and %d times %s", a, p.name, b, q.name)
}

func TestBothOfFew(t *testing.T) {
	for _, two := range pairs(t) {
		for _, a := range []uint64{0, 1, 2, 15, 16, 17} {
			for _, b := range []uint64{0, 1, 2, 15, 16, 17} {
				got := combo.Both(api.Four{a}, two[0].point, api.Four{b}, two[1].point)
				want := added(a, two[0].point).Add(added(b, two[1].point))
				check(t, got, want, "%d times %s and %d times %s", a, two[0].name, b, two[1].name)
			}
		}
	}
}

func TestBothAtEdges(t *testing.T) {
	t.Parallel()
	found, numbers := pairs(t), slices.Concat(edges(), lone())
	for i, a := range numbers {
		for j, b := range numbers {
			both(t, a, b, found[(len(numbers)*i+j)%len(found)])
		}
	}
}

// Each pair, at those edges where one number is 0, less long than the other, or as long.
func TestBothOfAllPairs(t *testing.T) {
	t.Parallel()
	top := plus(power(256), n(-1))
	for i, two := range pairs(t) {
		k := number(strange(uint64(700 + i)))
		for _, x := range [][2]*big.Int{
			{n(0), n(0)}, {n(0), k}, {k, n(0)}, {n(0), top}, {top, n(0)}, {n(1), k}, {k, n(1)}, {k, k},
			{order, order}, {order, n(1)}, {n(1), order}, {top, top}, {power(64), power(192)}, {power(252), n(15)},
		} {
			both(t, x[0], x[1], two)
		}
	}
}

func TestBothOfStrangeNumbers(t *testing.T) {
	for i, two := range pairs(t) {
		a, b := strange(uint64(1000+2*i)), strange(uint64(1001+2*i))
		got := combo.Both(a, two[0].point, b, two[1].point)
		want := two[0].multiple(t, number(a)).Add(two[1].multiple(t, number(b)))
		check(t, got, want, "%x times %s and %x times %s", a, two[0].name, b, two[1].name)
	}
}

func TestBothIsTheOtherWayRound(t *testing.T) {
	for i, two := range pairs(t)[:60] {
		a, b := strange(uint64(1500+2*i)), api.Four{strange(uint64(1501 + 2*i))[0]}
		check(t, combo.Both(a, two[0].point, b, two[1].point), combo.Both(b, two[1].point, a, two[0].point), "pair %d", i)
	}
}

// What two sides leave is nought.
func TestBothOfOneNumberAndTwoSides(t *testing.T) {
	for i, s := range samples(t) {
		for _, k := range append(edges(), number(strange(uint64(1600+i)))) {
			check(t, combo.Both(four(k), s.point, four(k), s.point.Neg()), edwards.Zero(), "%d times %s and its other side", k, s.name)
		}
	}
}

// P11.1: Pure

func TestPure(t *testing.T) {
	for _, s := range samples(t) {
		want := s.eight == 0
		if got := combo.Pure(s.point); got != want {
			t.Errorf("%s: %v", s.name, got)
		}
		if got := combo.Pure(s.point.Neg()); got != want {
			t.Errorf("the other side of %s: %v", s.name, got)
		}
		if nought := doubled(four(order), s.point).Same(edwards.Zero()); nought != want {
			t.Errorf("L times %s is nought: %v", s.name, nought)
		}
		if !combo.Pure(s.point.Eight()) {
			t.Errorf("eight times %s: false", s.name)
		}
	}
}

func TestPureOfMultiples(t *testing.T) {
	few := smalls(t)
	for i, k := range edges() {
		p := combo.Base(four(k))
		if !combo.Pure(p) {
			t.Errorf("%d times the base: false", k)
		}
		of := 1 + i%7
		if combo.Pure(p.Add(few[of])) || combo.Pure(combo.Both(four(k), edwards.Base(), api.Four{1}, few[of])) {
			t.Errorf("%d times the base, and %d times one of order eight: true", k, of)
		}
		if !combo.Pure(combo.Both(four(k), edwards.Base(), api.Four{8}, few[of])) {
			t.Errorf("%d times the base, and nought: false", k)
		}
	}
}

// P11.2: multiples add up

func TestMultiplesOfOnePointAddUp(t *testing.T) {
	t.Parallel()
	for i, s := range samples(t) {
		all := []*big.Int{n(0), n(1), n(15), order, plus(order, n(-1)), power(64), power(252), power(255), plus(power(256), n(-1))}
		for j := range uint64(4) {
			all = append(all, new(big.Int).Rsh(number(strange(2000+4*uint64(i)+j)), uint(j)))
		}
		for _, a := range all {
			for _, b := range all {
				sum := plus(a, b)
				if sum.BitLen() > 256 {
					continue
				}
				want := combo.Mul(four(sum), s.point)
				check(t, combo.Mul(four(a), s.point).Add(combo.Mul(four(b), s.point)), want, "%d and %d times %s", a, b, s.name)
				check(t, combo.Both(four(a), s.point, four(b), s.point), want, "%d and %d times %s, both", a, b, s.name)
			}
		}
	}
}

func TestMultiplesOfTwoPointsAddUp(t *testing.T) {
	for i, two := range pairs(t) {
		p, q := two[0].point, two[1].point
		for _, k := range []api.Four{{2}, {15}, four(order), strange(uint64(3000 + i)), {0, 0, 0, 1 << 63}} {
			check(t, combo.Mul(k, p.Add(q)), combo.Mul(k, p).Add(combo.Mul(k, q)), "%x times %s and %s", k, two[0].name, two[1].name)
		}
	}
}

func TestOtherSidesOfMultiples(t *testing.T) {
	for i, s := range samples(t) {
		for _, k := range []api.Four{{}, {1}, {16}, combo.Order(), strange(uint64(3500 + i))} {
			check(t, combo.Mul(k, s.point.Neg()), combo.Mul(k, s.point).Neg(), "%x times the other side of %s", k, s.name)
		}
	}
}

// P11.2: the order

func TestOrderTimesBaseIsNought(t *testing.T) {
	for k := int64(0); k < 16; k++ {
		some := four(times(order, n(k)))
		check(t, combo.Mul(some, edwards.Base()), edwards.Zero(), "%d times L times the base", k)
		check(t, combo.Base(some), edwards.Zero(), "Base of %d times L", k)
	}
	check(t, combo.Mul(combo.Order(), edwards.Base()), edwards.Zero(), "L times the base")
	check(t, combo.Base(four(plus(order, n(-1)))), edwards.Base().Neg(), "L - 1 times the base")
	check(t, combo.Base(four(plus(order, n(1)))), edwards.Base(), "L + 1 times the base")
	// No less of it is: L is prime, so that 1 would have to do.
	if combo.Base(api.Four{1}).Same(edwards.Zero()) {
		t.Error("the base is nought")
	}
}

func TestBaseHangsOnTheRestAlone(t *testing.T) {
	numbers := slices.Concat(edges(), lone())
	for i := range uint64(40) {
		numbers = append(numbers, number(strange(4000+i)))
	}
	for _, k := range numbers {
		rest := new(big.Int).Mod(k, order)
		check(t, combo.Base(four(k)), combo.Base(four(rest)), "%d times the base", k)
		for more := plus(rest, order); more.BitLen() <= 256; more = plus(more, times(order, n(5))) {
			check(t, combo.Base(four(more)), combo.Base(four(rest)), "%d times the base", more)
		}
	}
}

// Of other points a multiple doesn't hang on the rest alone: with a small part, it's another one.
func TestOthersDoNotHangOnTheRestAlone(t *testing.T) {
	for _, s := range samples(t) {
		a, b := combo.Mul(api.Four{1}, s.point), combo.Mul(four(plus(order, n(1))), s.point)
		if a.Same(b) != (s.eight == 0) {
			t.Errorf("once and L + 1 times %s: %x, %x", s.name, a.Bytes(), b.Bytes())
		}
	}
}

// What holds of all calls.

func TestNothingHandedInIsChanged(t *testing.T) {
	for i, two := range pairs(t) {
		a, b := strange(uint64(5000+i)), strange(uint64(6000+i))
		p, q := two[0].point, two[1].point
		pBytes, qBytes := p.Bytes(), q.Bytes()
		combo.Mul(a, p)
		combo.Base(a)
		combo.Both(a, p, b, q)
		combo.Pure(p)
		if a != strange(uint64(5000+i)) || b != strange(uint64(6000+i)) || p != two[0].point || q != two[1].point {
			t.Errorf("pair %d: changed", i)
		}
		if !bytes.Equal(p.Bytes(), pBytes) || !bytes.Equal(q.Bytes(), qBytes) {
			t.Errorf("pair %d: other bytes", i)
		}
	}
}

func TestSameAgain(t *testing.T) {
	for i, two := range pairs(t) {
		a, b := strange(uint64(7000+i)), strange(uint64(8000+i))
		p, q := two[0].point, two[1].point
		once := combo.Mul(a, p)
		sum := combo.Both(a, p, b, q)
		combo.Base(b)
		if combo.Mul(a, p) != once || combo.Both(a, p, b, q) != sum {
			t.Errorf("pair %d: another answer", i)
		}
	}
}

// Of plain Points nothing is promised but an end.
func TestPlainPointsEnd(t *testing.T) {
	plain := edwards.Point{}
	for _, k := range edges() {
		combo.Mul(four(k), plain)
		combo.Both(four(k), plain, four(k), plain)
		combo.Both(four(k), plain, four(k), edwards.Base())
		combo.Both(four(k), edwards.Base(), four(k), plain)
	}
	combo.Pure(plain)
}
