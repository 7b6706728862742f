package edwards_test

import (
	"bytes"
	"crypto/ed25519"
	"crypto/sha512"
	"encoding/hex"
	"math/big"
	"math/rand/v2"
	"slices"
	"testing"

	"cleromancy/api"
	"cleromancy/edwards"
)

// The chapter's words, spelt out by other means than the program's.

// n is a small number.
func n(k int64) *big.Int { return big.NewInt(k) }

// power is 2^k.
func power(k uint) *big.Int { return new(big.Int).Lsh(n(1), k) }

// p, d and order are for reading alone.
var (
	p     = new(big.Int).Sub(power(255), n(19))
	d     = by(n(-121665), n(121666))
	order = new(big.Int).Add(power(252), decimal("27742317777372353535851937790883648493"))
)

func decimal(text string) *big.Int {
	a, ok := new(big.Int).SetString(text, 10)
	if !ok {
		panic(text)
	}
	return a
}

func modulo(a *big.Int) *big.Int { return new(big.Int).Mod(a, p) }
func plus(a, b *big.Int) *big.Int {
	return modulo(new(big.Int).Add(a, b))
}
func minus(a, b *big.Int) *big.Int {
	return modulo(new(big.Int).Sub(a, b))
}
func times(a, b *big.Int) *big.Int {
	return modulo(new(big.Int).Mul(a, b))
}

// by is a by b, which isn't 0.
func by(a, b *big.Int) *big.Int {
	inverse := new(big.Int).ModInverse(modulo(b), p)
	if inverse == nil {
		panic("by 0")
	}
	return times(a, inverse)
}

// spot is a point's x and y.
type spot struct{ x, y *big.Int }

// lies tells whether a pair is a point.
func (a spot) lies() bool {
	xx, yy := times(a.x, a.x), times(a.y, a.y)
	return minus(yy, xx).Cmp(plus(n(1), times(d, times(xx, yy)))) == 0
}

func (a spot) is(b spot) bool { return a.x.Cmp(b.x) == 0 && a.y.Cmp(b.y) == 0 }

func (a spot) add(b spot) spot {
	all := times(d, times(times(a.x, b.x), times(a.y, b.y)))
	return spot{
		by(plus(times(a.x, b.y), times(a.y, b.x)), plus(n(1), all)),
		by(plus(times(a.y, b.y), times(a.x, b.x)), minus(n(1), all)),
	}
}

func (a spot) neg() spot { return spot{minus(n(0), a.x), a.y} }

// multiple is k times a point.
func (a spot) multiple(k *big.Int) spot {
	sum := spot{n(0), n(1)}
	for i := k.BitLen() - 1; i >= 0; i-- {
		sum = sum.add(sum)
		if k.Bit(i) == 1 {
			sum = sum.add(a)
		}
	}
	return sum
}

// lowestFirst are a number's 32 bytes.
func lowestFirst(a *big.Int) []byte {
	b := a.FillBytes(make([]byte, 32))
	slices.Reverse(b)
	return b
}

func (a spot) bytes() []byte {
	b := lowestFirst(a.y)
	if a.x.Bit(0) == 1 {
		b[31] |= 0x80
	}
	return b
}

// read is the point of bytes.
func read(b []byte) (spot, bool) {
	if len(b) != 32 {
		return spot{}, false
	}
	turned := slices.Clone(b)
	slices.Reverse(turned)
	negative := turned[0] >= 0x80
	turned[0] &= 0x7f
	y := new(big.Int).SetBytes(turned)
	if y.Cmp(p) >= 0 {
		return spot{}, false
	}
	yy := times(y, y)
	x := new(big.Int).ModSqrt(by(minus(yy, n(1)), plus(times(d, yy), n(1))), p)
	if x == nil {
		return spot{}, false
	}
	if (x.Bit(0) == 1) != negative {
		x = minus(n(0), x)
	}
	return spot{x, y}, (x.Bit(0) == 1) == negative
}

// base is the base, whose y is 4 by 5.
func base() spot {
	b, ok := read(lowestFirst(by(n(4), n(5))))
	if !ok {
		panic("base")
	}
	return b
}

// number is what an element stands for.
func number(a api.Fe) *big.Int {
	sum := new(big.Int)
	for _, limb := range slices.Backward(a[:]) {
		sum.Lsh(sum, 51)
		sum.Add(sum, new(big.Int).SetUint64(limb))
	}
	return modulo(sum)
}

// split is a number below 2^256, in limbs of 51 bits; the highest one of 52, if need be.
func split(a *big.Int) (limbs api.Fe) {
	rest := new(big.Int).Set(a)
	for i := range limbs {
		limbs[i] = new(big.Int).And(rest, n(1<<51-1)).Uint64()
		rest.Rsh(rest, 51)
	}
	limbs[4] += rest.Uint64() << 51
	return limbs
}

// forms are tame elements of one number: below p, above p (above 2^255, too), and with bits above the 51st in lower limbs.
func forms(a *big.Int) []api.Fe {
	all := []api.Fe{split(a), split(new(big.Int).Add(a, p))}
	for i := range 4 {
		for _, limbs := range all[:2] {
			if limbs[i+1] > 0 {
				limbs[i] += 1 << 51
				limbs[i+1]--
				all = append(all, limbs)
			}
		}
	}
	return all
}

func tame(a api.Fe) bool {
	return !slices.ContainsFunc(a[:], func(limb uint64) bool { return limb >= 1<<52 })
}

// strange are bytes without a pattern; the same in every run, others for each seed.
func strange(seed uint64, n int) []byte {
	r := rand.New(rand.NewPCG(10, seed))
	b := make([]byte, n)
	for i := range b {
		b[i] = byte(r.Uint32())
	}
	return b
}

// strangeNumber is one below 2^256.
func strangeNumber(seed uint64) *big.Int { return new(big.Int).SetBytes(strange(seed, 32)) }

// What the tests go through.

// smallDigits are the bytes of all small points, as they are published, each with how many times it is nought first.
func smallDigits() map[string]int64 {
	return map[string]int64{
		"0100000000000000000000000000000000000000000000000000000000000000": 1,
		"ecffffffffffffffffffffffffffffffffffffffffffffffffffffffffffff7f": 2,
		"0000000000000000000000000000000000000000000000000000000000000000": 4,
		"0000000000000000000000000000000000000000000000000000000000000080": 4,
		"26e8958fc2b227b045c3f489f2ef98f0d5dfac05d3c63339b13802886d53fc05": 8,
		"26e8958fc2b227b045c3f489f2ef98f0d5dfac05d3c63339b13802886d53fc85": 8,
		"c7176a703d4dd84fba3c0b760d10670f2a2053fa2c39ccc64ec7fd7792ac037a": 8,
		"c7176a703d4dd84fba3c0b760d10670f2a2053fa2c39ccc64ec7fd7792ac03fa": 8,
	}
}

func undigit(t *testing.T, digits string) []byte {
	t.Helper()
	b, err := hex.DecodeString(digits)
	if err != nil {
		t.Fatal(err)
	}
	return b
}

// known is a point as the program has it, and what it has to be.
type known struct {
	point edwards.Point
	want  spot
}

// check holds a point against what it has to be.
func check(t *testing.T, what string, a edwards.Point, want spot) {
	t.Helper()
	x, y := a.Pair()
	if number(x).Cmp(want.x) != 0 || number(y).Cmp(want.y) != 0 {
		t.Errorf("%s: %d, %d; want %d, %d", what, number(x), number(y), want.x, want.y)
	}
	if !tame(x) || !tame(y) {
		t.Errorf("%s: %x, %x: not tame", what, x, y)
	}
	if b := a.Bytes(); !bytes.Equal(b, want.bytes()) {
		t.Errorf("%s: %x; want %x", what, b, want.bytes())
	}
}

// from is the program's point of one that is known.
func from(t *testing.T, a spot) edwards.Point {
	t.Helper()
	point, ok := edwards.From(split(a.x), split(a.y))
	if !ok {
		t.Fatalf("From of %d, %d: false", a.x, a.y)
	}
	return point
}

// multiple is k times a point, by Add and Double alone.
func multiple(k *big.Int, a edwards.Point) edwards.Point {
	sum := edwards.Zero()
	for i := k.BitLen() - 1; i >= 0; i-- {
		sum = sum.Double()
		if k.Bit(i) == 1 {
			sum = sum.Add(a)
		}
	}
	return sum
}

// smalls are the eight small points, nought first: the multiples of one whose order is eight.
func smalls(t *testing.T) []known {
	t.Helper()
	one, ok := read(undigit(t, "26e8958fc2b227b045c3f489f2ef98f0d5dfac05d3c63339b13802886d53fc05"))
	if !ok {
		t.Fatal("no point")
	}
	var all []known
	for k := range int64(8) {
		a := one.multiple(n(k))
		all = append(all, known{from(t, a), a})
	}
	return all
}

// multiples are some of the base's.
func multiples(t *testing.T) []known {
	t.Helper()
	var all []known
	for _, k := range []*big.Int{n(1), n(2), n(3), n(8), new(big.Int).Sub(order, n(1)), new(big.Int).Sub(order, n(2)), strangeNumber(1), strangeNumber(2)} {
		a := base().multiple(k)
		all = append(all, known{from(t, a), a})
	}
	return all
}

// few are nought, points of each small order, of the base's multiples, and of both.
func few(t *testing.T) []known {
	t.Helper()
	s, m := smalls(t), multiples(t)
	all := []known{s[0], s[1], s[2], s[4], s[7], m[0], m[1], m[4], m[6]}
	for i, small := range s[1:] {
		a := m[i].want.add(small.want)
		all = append(all, known{from(t, a), a})
	}
	return all
}

// points are the small ones, multiples of the base, sums of both, and ones that came by sums rather than from a pair.
func points(t *testing.T) []known {
	t.Helper()
	s, m := smalls(t), multiples(t)
	all := slices.Concat(s, m)
	for _, small := range s[1:] {
		for _, of := range m[:3] {
			a := of.want.add(small.want)
			all = append(all, known{from(t, a), a})
		}
	}
	for i, a := range slices.Clone(all) {
		b := m[i%len(m)]
		all = append(all, known{a.point.Add(b.point), a.want.add(b.want)})
	}
	for _, a := range s {
		all = append(all, known{a.point.Double(), a.want.add(a.want)}, known{a.point.Add(a.point), a.want.add(a.want)})
	}
	return all
}

// The tests' own words hold by themselves.
func TestWordsOfTheTests(t *testing.T) {
	if !p.ProbablyPrime(20) || !order.ProbablyPrime(20) {
		t.Error("p and the order are prime")
	}
	if new(big.Int).ModSqrt(d, p) != nil {
		t.Error("d is no square")
	}
	for digits, times := range smallDigits() {
		a, ok := read(undigit(t, digits))
		if !ok || !a.lies() {
			t.Errorf("%s: %v", digits, ok)
			continue
		}
		for k := int64(1); k <= times; k++ {
			if nought := a.multiple(n(k)).is(spot{n(0), n(1)}); nought != (k == times) {
				t.Errorf("%d times %s: nought: %v", k, digits, nought)
			}
		}
	}
	for i, a := range points(t) {
		if !a.want.lies() {
			t.Errorf("point %d isn't one", i)
		}
		if back, ok := read(a.want.bytes()); !ok || !back.is(a.want) {
			t.Errorf("point %d isn't read", i)
		}
	}
	if b := base(); !b.multiple(order).is(spot{n(0), n(1)}) || b.x.Bit(0) != 0 {
		t.Error("base")
	}
	for _, a := range []*big.Int{n(0), n(1), minus(n(0), n(1)), modulo(strangeNumber(3))} {
		for i, form := range forms(a) {
			if !tame(form) || number(form).Cmp(a) != 0 {
				t.Errorf("form %d of %d: %x", i, a, form)
			}
		}
	}
}

// P10.1: which bytes are points

// readAs holds Of against the chapter's words.
func readAs(t *testing.T, b []byte) bool {
	t.Helper()
	want, found := read(b)
	a, ok := edwards.Of(b)
	if ok != found {
		t.Errorf("Of %x: %v; want %v", b, ok, found)
		return found
	}
	if !ok {
		zero := edwards.Point{}
		if a != zero {
			t.Errorf("Of %x: false, with a point", b)
		}
		return false
	}
	check(t, "Of "+hex.EncodeToString(b), a, want)
	if !bytes.Equal(a.Bytes(), b) {
		t.Errorf("Of %x: %x is written", b, a.Bytes())
	}
	return true
}

func TestOfWrongLengths(t *testing.T) {
	right := edwards.Base().Bytes()
	long := slices.Concat(right, make([]byte, 1), right)
	for _, b := range [][]byte{nil, {}, right[:1], right[:16], right[:31], right[1:], long[:33], long[:64], long, make([]byte, 31), make([]byte, 33), make([]byte, 64), append([]byte{0}, right...)} {
		if a, ok := edwards.Of(b); ok || a != (edwards.Point{}) {
			t.Errorf("Of %d bytes: %v", len(b), ok)
		}
	}
	if _, ok := edwards.Of(long[:32]); !ok {
		t.Error("Of 32 bytes with room behind: false")
	}
}

func TestOfExamples(t *testing.T) {
	for _, x := range []struct {
		y              *big.Int
		plain, flipped bool // without, and with the highest bit
	}{
		{n(0), true, true},
		{n(1), true, false},
		{n(2), false, false},
		{n(3), true, true},
		{n(4), true, true},
		{n(7), false, false},
		{by(n(4), n(5)), true, true},
		{new(big.Int).Sub(p, n(4)), true, true},
		{new(big.Int).Sub(p, n(2)), false, false},
		{new(big.Int).Sub(p, n(1)), true, false},
		{p, false, false},
		{new(big.Int).Add(p, n(1)), false, false},
		{new(big.Int).Add(p, n(3)), false, false},
		{new(big.Int).Sub(power(255), n(2)), false, false},
		{new(big.Int).Sub(power(255), n(1)), false, false},
	} {
		b := lowestFirst(x.y)
		if _, ok := edwards.Of(b); ok != x.plain {
			t.Errorf("Of y %d: %v; want %v", x.y, ok, x.plain)
		}
		readAs(t, b)
		b[31] |= 0x80
		if _, ok := edwards.Of(b); ok != x.flipped {
			t.Errorf("Of y %d, x negative: %v; want %v", x.y, ok, x.flipped)
		}
		readAs(t, b)
	}
}

// Those from p on would be 0 and more, modulo p.
func TestOfAllYsFromTheModulusOn(t *testing.T) {
	for k := range int64(19) {
		b := lowestFirst(new(big.Int).Add(p, n(k)))
		for range 2 {
			if _, ok := edwards.Of(b); ok {
				t.Errorf("Of %x: true", b)
			}
			b[31] ^= 0x80
		}
	}
}

func TestOfYsAcrossNought(t *testing.T) {
	found := 0
	for k := int64(-150); k <= 150; k++ {
		b := lowestFirst(modulo(n(k)))
		for range 2 {
			if readAs(t, b) {
				found++
			}
			b[31] ^= 0x80
		}
	}
	if found < 200 || found > 400 {
		t.Errorf("%d of 602 are points", found)
	}
}

func TestOfStrangeBytes(t *testing.T) {
	found := 0
	for i := range uint64(200) {
		if readAs(t, strange(i, 32)) {
			found++
		}
	}
	if found < 60 || found > 140 {
		t.Errorf("%d of 200 are points", found)
	}
}

func TestOfEachBit(t *testing.T) {
	for _, a := range []spot{base(), base().multiple(strangeNumber(4)), {n(0), n(1)}} {
		for i := range 256 {
			b := a.bytes()
			b[i/8] ^= 1 << (i % 8)
			readAs(t, b)
		}
	}
}

func TestOfHighestBitAlone(t *testing.T) {
	for _, a := range points(t) {
		b := a.want.bytes()
		b[31] ^= 0x80
		other, ok := edwards.Of(b)
		if ok != (a.want.x.Sign() != 0) {
			t.Errorf("Of %x: %v", b, ok)
		} else if ok {
			check(t, "the other side", other, a.want.neg())
		}
	}
}

func TestOfSmallPoints(t *testing.T) {
	for digits := range smallDigits() {
		if !readAs(t, undigit(t, digits)) {
			t.Errorf("Of %s: false", digits)
		}
	}
}

// P10.1: which pairs are points

func TestFromPoints(t *testing.T) {
	for i, a := range points(t) {
		for _, x := range forms(a.want.x) {
			for _, y := range forms(a.want.y) {
				point, ok := edwards.From(x, y)
				if !ok {
					t.Errorf("From of point %d, %x, %x: false", i, x, y)
					continue
				}
				check(t, "From", point, a.want)
			}
		}
	}
}

// refused holds From of a pair against the chapter's words, in each form.
func refused(t *testing.T, a spot) {
	t.Helper()
	if a.lies() {
		t.Fatalf("%d, %d is a point", a.x, a.y)
	}
	for _, x := range forms(a.x) {
		for _, y := range forms(a.y) {
			if point, ok := edwards.From(x, y); ok || point != (edwards.Point{}) {
				t.Errorf("From of %x, %x: %v", x, y, ok)
			}
		}
	}
}

func TestFromOthers(t *testing.T) {
	for _, a := range []spot{{n(0), n(0)}, {n(1), n(1)}, {n(0), n(2)}, {n(2), n(0)}, {n(1), n(0)}, {minus(n(0), n(1)), n(0)}, {minus(n(0), n(1)), minus(n(0), n(1))}} {
		refused(t, a)
	}
	for i := range uint64(20) {
		refused(t, spot{modulo(strangeNumber(100 + i)), modulo(strangeNumber(200 + i))})
	}
}

func TestFromPairsThatMissByLittle(t *testing.T) {
	for _, a := range multiples(t) {
		x, y := a.want.x, a.want.y
		for _, k := range []int64{1, -1, 2, 19, 38, 1 << 51} {
			refused(t, spot{plus(x, n(k)), y})
			refused(t, spot{x, plus(y, n(k))})
		}
		refused(t, spot{y, x})
		refused(t, spot{x, x})
		refused(t, spot{y, y})
		refused(t, spot{x, n(0)})
		refused(t, spot{n(0), y})
	}
}

// With x and y exchanged, y^2 - x^2 changes its sign and the other side doesn't: only where both were 0 could it be a point again, and there is none such.
func TestFromExchanged(t *testing.T) {
	for _, a := range points(t) {
		refused(t, spot{a.want.y, a.want.x})
	}
}

func TestFromAllFourSides(t *testing.T) {
	x, y := base().x, base().y
	for _, a := range []spot{{x, y}, {minus(n(0), x), y}, {x, minus(n(0), y)}, {minus(n(0), x), minus(n(0), y)}} {
		check(t, "a side of the base", from(t, a), a)
	}
}

// P10.1: what is written

func TestPairsAreReadAgain(t *testing.T) {
	for i, a := range points(t) {
		check(t, "a point", a.point, a.want)
		x, y := a.point.Pair()
		again, ok := edwards.From(x, y)
		if !ok || !again.Same(a.point) || !a.point.Same(again) {
			t.Errorf("point %d: From of its Pair: %v", i, ok)
			continue
		}
		check(t, "From of a Pair", again, a.want)
	}
}

func TestBytesAreReadAgain(t *testing.T) {
	for i, a := range points(t) {
		b := a.point.Bytes()
		again, ok := edwards.Of(b)
		if !ok || !again.Same(a.point) || !bytes.Equal(again.Bytes(), b) {
			t.Errorf("point %d: Of its Bytes: %v", i, ok)
			continue
		}
		check(t, "Of its Bytes", again, a.want)
	}
}

func TestBytesAreNewMemory(t *testing.T) {
	a := edwards.Base().Double()
	want := slices.Clone(a.Bytes())
	clear(a.Bytes())
	if !bytes.Equal(a.Bytes(), want) {
		t.Error("a later call tells of what was written into the bytes")
	}
}

func TestNothingHandedInIsChangedOrKept(t *testing.T) {
	for _, digits := range []string{
		"5866666666666666666666666666666666666666666666666666666666666666", // the base
		"58666666666666666666666666666666666666666666666666666666666666e6", // its other side
		"0100000000000000000000000000000000000000000000000000000000000080", // no point
		"ffffffffffffffffffffffffffffffffffffffffffffffffffffffffffffffff", // no number
	} {
		b := append(undigit(t, digits), 1, 2, 3)
		a, ok := edwards.Of(b[:32])
		if hex.EncodeToString(b) != digits+"010203" {
			t.Errorf("Of %s: changed into %x", digits, b)
		}
		clear(b)
		if ok && hex.EncodeToString(a.Bytes()) != digits {
			t.Errorf("Of %s hangs on bytes that were written later", digits)
		}
	}
}

// P10.2: nought and the base

func TestZero(t *testing.T) {
	check(t, "Zero", edwards.Zero(), spot{n(0), n(1)})
	if b := edwards.Zero().Bytes(); !bytes.Equal(b, append([]byte{1}, make([]byte, 31)...)) {
		t.Errorf("nought's bytes: %x", b)
	}
}

func TestBase(t *testing.T) {
	check(t, "Base", edwards.Base(), base())
	if b := edwards.Base().Bytes(); !bytes.Equal(b, append([]byte{0x58}, bytes.Repeat([]byte{0x66}, 31)...)) {
		t.Errorf("the base's bytes: %x", b)
	}
	// RFC 8032, 5.1.
	check(t, "Base", edwards.Base(), spot{
		decimal("15112221349535400772501151409588531511454012693041857206046113283949847762202"),
		decimal("46316835694926478169428394003475163141307993866256225615783033603165251855960"),
	})
}

// P10.2: sums

func TestAdd(t *testing.T) {
	all := points(t)
	for i, a := range all {
		for _, b := range all[i:] {
			want := a.want.add(b.want)
			check(t, "Add", a.point.Add(b.point), want)
			check(t, "Add, the other way round", b.point.Add(a.point), want)
		}
	}
}

func TestAddSmallPoints(t *testing.T) {
	all := smalls(t)
	for i, a := range all {
		for j, b := range all {
			if !a.point.Add(b.point).Same(all[(i+j)%8].point) {
				t.Errorf("%d and %d times one of order eight", i, j)
			}
		}
	}
}

func TestAddNought(t *testing.T) {
	zero := edwards.Zero()
	for i, a := range points(t) {
		if !a.point.Add(zero).Same(a.point) || !zero.Add(a.point).Same(a.point) {
			t.Errorf("point %d and nought", i)
		}
		check(t, "and nought", a.point.Add(zero), a.want)
		check(t, "nought and", zero.Add(a.point), a.want)
	}
}

func TestAddOtherSide(t *testing.T) {
	for i, a := range points(t) {
		if !a.point.Add(a.point.Neg()).Same(edwards.Zero()) || !a.point.Neg().Add(a.point).Same(edwards.Zero()) {
			t.Errorf("point %d and its other side", i)
		}
		check(t, "with its other side", a.point.Add(a.point.Neg()), spot{n(0), n(1)})
	}
}

func TestDouble(t *testing.T) {
	for i, a := range points(t) {
		check(t, "Double", a.point.Double(), a.want.add(a.want))
		if !a.point.Double().Same(a.point.Add(a.point)) {
			t.Errorf("point %d with itself", i)
		}
	}
}

func TestNeg(t *testing.T) {
	for i, a := range points(t) {
		check(t, "Neg", a.point.Neg(), a.want.neg())
		check(t, "Neg twice", a.point.Neg().Neg(), a.want)
		itself := a.want.x.Sign() == 0
		if a.point.Neg().Same(a.point) != itself {
			t.Errorf("point %d is its own other side: %v", i, !itself)
		}
		// The other side's sums are as good as its pair.
		check(t, "Neg, doubled", a.point.Neg().Double(), a.want.add(a.want).neg())
		check(t, "Neg, and the base", a.point.Neg().Add(edwards.Base()), a.want.neg().add(base()))
	}
}

func TestNegOfSmallPoints(t *testing.T) {
	all := smalls(t)
	for i, a := range all {
		if !a.point.Neg().Same(all[(8-i)%8].point) {
			t.Errorf("the other side of %d times one of order eight", i)
		}
	}
}

func TestEight(t *testing.T) {
	for i, a := range points(t) {
		sum := edwards.Zero()
		for range 8 {
			sum = sum.Add(a.point)
		}
		if !a.point.Eight().Same(sum) {
			t.Errorf("eight times point %d", i)
		}
		check(t, "Eight", a.point.Eight(), a.want.multiple(n(8)))
	}
}

func TestSmall(t *testing.T) {
	nought := spot{n(0), n(1)}
	found := 0
	for i, a := range points(t) {
		want := a.want.multiple(n(8)).is(nought)
		if a.point.Small() != want {
			t.Errorf("point %d is small: %v", i, !want)
		}
		if want {
			found++
		}
	}
	if found < 8 {
		t.Errorf("%d are small", found)
	}
}

func TestSmallExamples(t *testing.T) {
	for digits := range smallDigits() {
		a, ok := edwards.Of(undigit(t, digits))
		if !ok || !a.Small() || !a.Neg().Small() || !a.Double().Small() {
			t.Errorf("%s isn't small", digits)
		}
		for k := int64(1); k <= 16; k++ {
			if b := multiple(n(k), edwards.Base()).Add(a); b.Small() || b.Neg().Small() {
				t.Errorf("%s and %d times the base is small", digits, k)
			}
		}
		if part := multiple(order, edwards.Base().Add(a)); !part.Small() {
			t.Errorf("the order times the base and %s isn't small", digits)
		}
	}
	if edwards.Base().Small() {
		t.Error("the base is small")
	}
}

func TestSame(t *testing.T) {
	all := points(t)
	for i, a := range all {
		for j, b := range all {
			if want := a.want.is(b.want); a.point.Same(b.point) != want {
				t.Errorf("points %d and %d are one: %v", i, j, !want)
			}
		}
	}
}

func TestSameReachedInDifferentWays(t *testing.T) {
	b := edwards.Base()
	read, ok := edwards.Of(multiple(n(12), b).Bytes())
	if !ok {
		t.Fatal("Of")
	}
	x, y := multiple(n(12), b).Pair()
	paired, ok := edwards.From(x, y)
	if !ok {
		t.Fatal("From")
	}
	ways := []edwards.Point{
		b.Eight().Add(b.Double().Double()),
		b.Double().Double().Add(b.Eight()),
		b.Double().Add(b).Double().Double(),
		b.Double().Eight().Add(b.Neg().Double().Double()),
		b.Neg().Eight().Add(b.Neg().Double().Double()).Neg(),
		multiple(new(big.Int).Add(order, n(12)), b),
		multiple(new(big.Int).Sub(order, n(12)), b.Neg()),
		multiple(new(big.Int).Sub(order, n(12)), b).Neg(),
		read,
		paired,
	}
	for i, a := range ways {
		for j, c := range ways {
			if !a.Same(c) || !bytes.Equal(a.Bytes(), c.Bytes()) {
				t.Errorf("ways %d and %d", i, j)
			}
			if a.Same(c.Add(b)) || a.Same(c.Neg()) || a.Same(c.Double()) {
				t.Errorf("ways %d and another than %d", i, j)
			}
		}
	}
}

// Points that share x or y alone, each by a different z, too.
func TestSameOfPointsThatShareAPart(t *testing.T) {
	two, ok := edwards.Of(undigit(t, "ecffffffffffffffffffffffffffffffffffffffffffffffffffffffffffff7f"))
	if !ok {
		t.Fatal("Of")
	}
	for i, a := range multiples(t) {
		across := a.point.Add(two) // -x, -y
		for j, b := range []edwards.Point{a.point.Neg(), across, across.Neg(), from(t, a.want.neg())} {
			if a.point.Same(b) || b.Same(a.point) {
				t.Errorf("point %d and side %d of it", i, j)
			}
		}
		if !across.Add(two).Same(a.point) || !across.Neg().Neg().Same(across) {
			t.Errorf("point %d: back again", i)
		}
	}
}

// P10.3: points add up as in a group

func TestSumsOfThree(t *testing.T) {
	all := few(t)
	for i, a := range all {
		for j, b := range all {
			for k, c := range all {
				left, right := a.point.Add(b.point).Add(c.point), a.point.Add(b.point.Add(c.point))
				if !left.Same(right) || !left.Same(c.point.Add(a.point).Add(b.point)) {
					t.Errorf("points %d, %d and %d", i, j, k)
				}
				if i <= j && j <= k {
					check(t, "a sum of three", left, a.want.add(b.want).add(c.want))
				}
			}
		}
	}
}

func TestSumsOfTwo(t *testing.T) {
	all := points(t)
	for i, a := range all {
		for j, b := range all {
			sum := a.point.Add(b.point)
			if !sum.Same(b.point.Add(a.point)) {
				t.Errorf("points %d and %d, the other way round", i, j)
			}
			if !sum.Add(b.point.Neg()).Same(a.point) {
				t.Errorf("points %d and %d, and back", i, j)
			}
			if !sum.Neg().Same(a.point.Neg().Add(b.point.Neg())) {
				t.Errorf("points %d and %d, their other sides", i, j)
			}
			if !sum.Double().Same(a.point.Double().Add(b.point.Double())) || !sum.Eight().Same(a.point.Eight().Add(b.point.Eight())) {
				t.Errorf("points %d and %d, doubled", i, j)
			}
			if again, ok := edwards.Of(sum.Bytes()); !ok || !again.Same(sum) {
				t.Errorf("points %d and %d: what is written isn't read", i, j)
			}
		}
	}
}

func TestOrder(t *testing.T) {
	b, zero := edwards.Base(), edwards.Zero()
	if !multiple(order, b).Same(zero) {
		t.Error("the order times the base isn't nought")
	}
	check(t, "the order times the base", multiple(order, b), spot{n(0), n(1)})
	for shift := uint(1); shift < 253; shift++ {
		if multiple(new(big.Int).Rsh(order, shift), b).Same(zero) {
			t.Errorf("the order by 2^%d, times the base, is nought", shift)
		}
	}
	sum := zero
	for k := range 1000 {
		sum = sum.Add(b)
		if sum.Same(zero) {
			t.Fatalf("%d times the base is nought", k+1)
		}
	}
	if !multiple(new(big.Int).Sub(order, n(1)), b).Same(b.Neg()) || !multiple(new(big.Int).Add(order, n(1)), b).Same(b) {
		t.Error("beside the order")
	}
}

func TestOrdersWithSmallPoints(t *testing.T) {
	for i, a := range smalls(t) {
		sum := edwards.Base().Add(a.point)
		for k := int64(1); k <= 8; k++ {
			times := new(big.Int).Mul(order, n(k))
			if nought := multiple(times, sum).Same(edwards.Zero()); nought != (int64(i)*k%8 == 0) {
				t.Errorf("%d times the order of the base and %d times one of order eight: nought: %v", k, i, nought)
			}
		}
	}
}

func TestMultiplesOfTheBase(t *testing.T) {
	sum, want := edwards.Zero(), spot{n(0), n(1)}
	for range 100 {
		check(t, "a multiple of the base", sum, want)
		sum, want = sum.Add(edwards.Base()), want.add(base())
	}
	for i := range uint64(10) {
		j, k := strangeNumber(300+i), strangeNumber(400+i)
		left, right := multiple(j, edwards.Base()), multiple(k, edwards.Base())
		check(t, "a multiple of the base", left, base().multiple(j))
		if !left.Add(right).Same(multiple(new(big.Int).Add(j, k), edwards.Base())) {
			t.Errorf("%d and %d times the base", j, k)
		}
		if !multiple(j, right).Same(multiple(k, left)) {
			t.Errorf("%d times %d times the base", j, k)
		}
	}
}

// RFC 8032's keys are multiples of the base, and Go's own are made by other means.
func TestKeys(t *testing.T) {
	for i := range uint64(30) {
		secret := strange(500+i, ed25519.SeedSize)
		sum := sha512.Sum512(secret)
		k := sum[:32]
		k[0] &= 248
		k[31] = k[31]&127 | 64
		slices.Reverse(k)
		key := ed25519.NewKeyFromSeed(secret).Public().(ed25519.PublicKey)
		a := multiple(new(big.Int).SetBytes(k), edwards.Base())
		if !bytes.Equal(a.Bytes(), key) {
			t.Errorf("key %d: %x; want %x", i, a.Bytes(), key)
		}
		if back, ok := edwards.Of(key); !ok || !back.Same(a) || back.Small() {
			t.Errorf("key %d: Of: %v", i, ok)
		}
	}
}

// Whole chains of sums, so that coordinates have come a long way.
func TestLongChains(t *testing.T) {
	all := few(t)
	for i, a := range all {
		point, want := a.point, a.want
		for k := range 60 {
			b := all[(i+k)%len(all)]
			switch k % 4 {
			case 0:
				point, want = point.Add(b.point), want.add(b.want)
			case 1:
				point, want = point.Double(), want.add(want)
			case 2:
				point, want = b.point.Add(point.Neg()), b.want.add(want.neg())
			case 3:
				point, want = point.Eight(), want.multiple(n(8))
			}
			check(t, "a chain", point, want)
		}
	}
}

// Rules that hold everywhere.

func TestPointsHandedInStayTheSame(t *testing.T) {
	all := few(t)
	for i, a := range all {
		for j, b := range all {
			oldA, oldB := a.point, b.point
			a.point.Add(b.point)
			a.point.Double()
			a.point.Neg()
			a.point.Eight()
			a.point.Small()
			a.point.Same(b.point)
			a.point.Bytes()
			a.point.Pair()
			if a.point != oldA || b.point != oldB {
				t.Errorf("points %d and %d are changed", i, j)
			}
			check(t, "the left one", a.point, a.want)
			check(t, "the right one", b.point, b.want)
		}
	}
}

// What a call answers hangs on its arguments alone.
func TestSameAgain(t *testing.T) {
	all := few(t)
	for i, a := range all {
		for j, b := range all {
			if a.point.Add(b.point) != a.point.Add(b.point) || a.point.Double() != a.point.Double() || a.point.Neg() != a.point.Neg() || a.point.Eight() != a.point.Eight() {
				t.Errorf("points %d and %d: another answer", i, j)
			}
		}
	}
	if edwards.Base() != edwards.Base() || edwards.Zero() != edwards.Zero() {
		t.Error("another base or nought")
	}
	check(t, "Base, behind all that", edwards.Base(), base())
	check(t, "Zero, behind all that", edwards.Zero(), spot{n(0), n(1)})
}

// Nothing is promised of these but an end.
func TestPlainPointsEnd(t *testing.T) {
	var plain edwards.Point
	for _, a := range []edwards.Point{plain, edwards.Base(), edwards.Zero()} {
		for _, b := range []edwards.Point{plain, plain.Neg(), plain.Double(), plain.Add(a), a.Add(plain)} {
			for _, c := range []edwards.Point{b, a.Add(b), b.Add(a), b.Double(), b.Neg(), b.Eight()} {
				c.Small()
				c.Same(a)
				a.Same(c)
				c.Bytes()
				x, y := c.Pair()
				edwards.From(x, y)
				edwards.Of(c.Bytes())
			}
		}
	}
}

// Of elements that aren't tame neither.
func TestFromOfWhatIsNotTameEnds(t *testing.T) {
	most := ^uint64(0)
	wild := []api.Fe{{most, most, most, most, most}, {1 << 52}, {0, 0, 0, 0, 1 << 63}, {most}, {0, 0, most}}
	for _, x := range wild {
		for _, y := range append(wild, api.Fe{}, api.Fe{1}) {
			for _, ends := range [][2]api.Fe{{x, y}, {y, x}} {
				a, _ := edwards.From(ends[0], ends[1])
				a.Add(edwards.Base()).Bytes()
				a.Eight().Pair()
				a.Small()
			}
		}
	}
}
