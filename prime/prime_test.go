package prime_test

import (
	"bytes"
	"crypto/ecdh"
	"crypto/elliptic"
	"encoding/binary"
	"encoding/hex"
	"fmt"
	"math/big"
	"math/rand/v2"
	"slices"
	"testing"

	"cleromancy/api"
	"cleromancy/prime"
)

// The chapter's words, by math/big.

func n(k int64) *big.Int { return big.NewInt(k) }

// power is 2^k.
func power(k uint) *big.Int { return new(big.Int).Lsh(n(1), k) }

func plus(a, b *big.Int) *big.Int  { return new(big.Int).Add(a, b) }
func minus(a, b *big.Int) *big.Int { return new(big.Int).Sub(a, b) }
func times(a, b *big.Int) *big.Int { return new(big.Int).Mul(a, b) }

func number16(digits string) *big.Int {
	a, ok := new(big.Int).SetString(digits, 16)
	if !ok {
		panic(digits)
	}
	return a
}

// As the chapter writes them; for reading alone.
var (
	p     = plus(minus(power(256), power(224)), plus(power(192), minus(power(96), n(1))))
	b     = number16("5ac635d8aa3a93e7b3ebbd55769886bc651d06b0cc53b0f63bce3c3e27d2604b")
	order = number16("ffffffff00000000ffffffffffffffffbce6faada7179e84f3b9cac2fc632551")
	baseX = number16("6b17d1f2e12c4247f8bce6e563a440f277037d812deb33a0f4a13945d898c296")
	baseY = number16("4fe342e2fe1a7f9b8ee7eb4a7c0f9e162bce33576b315ececbb6406837bf51f5")
)

// modP is a number modulo p.
func modP(a *big.Int) *big.Int { return new(big.Int).Mod(a, p) }

// by is a by b, modulo p.
func by(a, b *big.Int) *big.Int { return modP(times(a, new(big.Int).ModInverse(b, p))) }

// pair is a point in the chapter's words; nil is nought.
type pair struct{ x, y *big.Int }

func basePair() *pair { return &pair{baseX, baseY} }

// right is x^3 - 3x + b.
func right(x *big.Int) *big.Int {
	return modP(plus(minus(times(x, times(x, x)), times(n(3), x)), b))
}

// onCurve tells whether two numbers are a point's.
func onCurve(x, y *big.Int) bool {
	return x.Cmp(p) < 0 && y.Cmp(p) < 0 && modP(times(y, y)).Cmp(right(x)) == 0
}

// other is the other side.
func (a *pair) other() *pair {
	if a == nil {
		return nil
	}
	return &pair{a.x, modP(new(big.Int).Neg(a.y))}
}

// and is the sum, by the line through both.
func (a *pair) and(c *pair) *pair {
	switch {
	case a == nil:
		return c
	case c == nil:
		return a
	case a.x.Cmp(c.x) == 0 && a.y.Cmp(c.y) != 0:
		return nil
	}
	var slope *big.Int
	if a.x.Cmp(c.x) == 0 {
		slope = by(minus(times(n(3), times(a.x, a.x)), n(3)), times(n(2), a.y))
	} else {
		slope = by(minus(c.y, a.y), modP(minus(c.x, a.x)))
	}
	x := modP(minus(times(slope, slope), plus(a.x, c.x)))
	return &pair{x, modP(minus(times(slope, minus(a.x, x)), a.y))}
}

// often is k times it.
func (a *pair) often(k *big.Int) *pair {
	var sum *pair
	for i := k.BitLen() - 1; i >= 0; i-- {
		sum = sum.and(sum)
		if k.Bit(i) == 1 {
			sum = sum.and(a)
		}
	}
	return sum
}

// bytes are as the chapter says.
func (a *pair) bytes() []byte {
	if a == nil {
		return []byte{0}
	}
	return append([]byte{2 + byte(a.y.Bit(0))}, a.x.FillBytes(make([]byte, 32))...)
}

// four is a number below 2^256, in words.
func four(a *big.Int) (words api.Four) {
	bytes := a.FillBytes(make([]byte, 32))
	for i := range words {
		words[i] = binary.BigEndian.Uint64(bytes[24-8*i:])
	}
	return words
}

// number is what words stand for.
func number(words api.Four) *big.Int {
	sum := new(big.Int)
	for _, word := range slices.Backward(words[:]) {
		sum.Lsh(sum, 64)
		sum.Add(sum, new(big.Int).SetUint64(word))
	}
	return sum
}

// strange is a number below 2^256 without a pattern; the same in every run, another for each seed.
func strange(seed uint64) api.Four {
	r := rand.New(rand.NewPCG(12, seed))
	return api.Four{r.Uint64(), r.Uint64(), r.Uint64(), r.Uint64()}
}

func TestWordsOfTheTests(t *testing.T) {
	curve := elliptic.P256().Params()
	for _, x := range []struct{ got, want *big.Int }{{p, curve.P}, {b, curve.B}, {order, curve.N}, {baseX, curve.Gx}, {baseY, curve.Gy}} {
		if x.got.Cmp(x.want) != 0 {
			t.Errorf("%x; want %x", x.got, x.want)
		}
	}
	// RFC 6979, A.2.5.
	secret := number16("c9afa9d845ba75166b5c215767b1d6934e50c3db36e89b127b8a622b120f6721")
	key := basePair().often(secret)
	if key.x.Cmp(number16("60fed4ba255a9d31c961eb74c6356d68c049b8923b61fa6ce669622e60f29fb6")) != 0 {
		t.Errorf("x %x", key.x)
	}
	if key.y.Cmp(number16("7903fe1008b8bc99a41ae9e95628bc64f2f1b20c2d7e9f5177a3c294d4462299")) != 0 {
		t.Errorf("y %x", key.y)
	}
	if basePair().often(order) != nil || basePair().often(minus(order, n(1))).y.Cmp(basePair().other().y) != 0 {
		t.Error("the order")
	}
	if !onCurve(key.x, key.y) || onCurve(plus(key.x, p), key.y) || onCurve(key.y, key.x) {
		t.Error("the curve")
	}
}

// What the tests go through.

// point is the point of a pair.
func point(t *testing.T, a *pair) prime.Point {
	t.Helper()
	if a == nil {
		return prime.Zero()
	}
	found, ok := prime.From(four(a.x), four(a.y))
	if !ok {
		t.Fatalf("%x, %x: no point", a.x, a.y)
	}
	return found
}

// is holds a point against what its pair and its bytes have to be.
func is(t *testing.T, got prime.Point, want *pair, what string, parts ...any) {
	t.Helper()
	x, y, ok := got.Pair()
	if ok != (want != nil) {
		t.Errorf(what+": Pair says %v", append(parts, ok)...)
	}
	if want == nil {
		want = &pair{n(0), n(0)}
		if !bytes.Equal(got.Bytes(), []byte{0}) {
			t.Errorf(what+": %x; want nought's", append(parts, got.Bytes())...)
		}
	} else if !bytes.Equal(got.Bytes(), want.bytes()) {
		t.Errorf(what+": %x; want %x", append(parts, got.Bytes(), want.bytes())...)
	}
	if x != four(want.x) || y != four(want.y) {
		t.Errorf(what+": %x, %x; want %x, %x", append(parts, number(x), number(y), want.x, want.y)...)
	}
}

// check holds a point against what it has to be, by all that can be asked of it: sums too, since a point may have more to it than its pair shows.
func check(t *testing.T, got prime.Point, want *pair, what string, parts ...any) {
	t.Helper()
	is(t, got, want, what, parts...)
	is(t, got.Double(), want.and(want), what+", doubled", parts...)
	is(t, got.Neg(), want.other(), what+", the other side", parts...)
	is(t, got.Add(prime.Base()), want.and(basePair()), what+", and the base", parts...)
	is(t, prime.Base().Add(got), want.and(basePair()), what+", ahead of it the base", parts...)
	if same := point(t, want); !got.Same(same) || !same.Same(got) || !got.Same(got) {
		t.Errorf(what+": not the same", parts...)
	}
}

// same holds two points against each other.
func same(t *testing.T, got, want prime.Point, what string, parts ...any) {
	t.Helper()
	base := prime.Base()
	switch {
	case !got.Same(want) || !want.Same(got) || !bytes.Equal(got.Bytes(), want.Bytes()):
		t.Errorf(what+": %x; want %x", append(parts, got.Bytes(), want.Bytes())...)
	case !got.Add(base).Same(want.Add(base)) || !got.Double().Same(want.Double()):
		t.Errorf(what+": the same bytes, other sums", parts...)
	}
}

// sample is a point, and what it has to be: so many times the base.
type sample struct {
	name  string
	of    *big.Int
	pair  *pair
	point prime.Point
}

// samples are points that come from pairs, from bytes, from sums and from multiples.
func samples(t *testing.T) []sample {
	t.Helper()
	base := prime.Base()
	all := []sample{
		{"nought", n(0), nil, prime.Zero()},
		{"the base", n(1), basePair(), base},
		{"the base's other side", minus(order, n(1)), basePair().other(), base.Neg()},
		{"the base by sums", n(1), basePair(), base.Double().Add(base.Neg())},
		{"the base by other sums", n(1), basePair(), base.Double().Double().Add(base).Add(base.Double().Double().Neg())},
		{"nought by a sum", n(0), nil, base.Double().Add(base.Double().Neg())},
		{"nought by a multiple", n(0), nil, prime.Mul(prime.Order(), base)},
	}
	for i, k := range []*big.Int{n(2), n(3), minus(order, n(2)), new(big.Int).Rsh(order, 1), number(strange(1)), new(big.Int).Rsh(number(strange(2)), 120)} {
		k = new(big.Int).Mod(k, order)
		of := basePair().often(k)
		all = append(all, sample{fmt.Sprintf("%d times the base", k), k, of, point(t, of)})
		found, ok := prime.Of(of.bytes())
		if !ok {
			t.Fatalf("%x: no point", of.bytes())
		}
		switch i % 3 {
		case 0:
			all = append(all, sample{fmt.Sprintf("%d times the base by sums", k), k, of, found.Double().Add(found.Neg())})
		case 1:
			all = append(all, sample{fmt.Sprintf("%d times the base by Mul", k), k, of, prime.Mul(four(k), base)})
		case 2:
			all = append(all, sample{fmt.Sprintf("%d times the base by more sums", k), k, of, found.Add(base).Double().Add(found.Neg()).Add(base.Double().Neg())})
		}
	}
	return all
}

// edges are the numbers at which words, groups of bits, and the order end.
func edges() []*big.Int {
	all := []*big.Int{n(0), n(1), n(2), n(3), n(15), n(16), n(17), n(255), n(256)}
	for _, k := range []*big.Int{order, p, power(64), power(128), power(192), power(224), power(252), power(255)} {
		all = append(all, minus(k, n(1)), k, plus(k, n(1)))
	}
	return append(all, minus(power(256), n(2)), minus(power(256), n(1)), minus(power(256), order))
}

// lone are numbers in which one word alone isn't 0.
func lone() []*big.Int {
	var all []*big.Int
	for i := range uint(4) {
		for _, word := range []*big.Int{n(1), n(15), n(16), power(63), minus(power(64), n(1)), number(api.Four{strange(50 + uint64(i))[0]})} {
			all = append(all, new(big.Int).Lsh(word, 64*i))
		}
	}
	return all
}

// added is k times a point, added up one by one.
func added(k uint64, of prime.Point) prime.Point {
	sum := prime.Zero()
	for range k {
		sum = sum.Add(of)
	}
	return sum
}

// doubled is k times a point, bit by bit, the lowest first.
func doubled(k *big.Int, of prime.Point) prime.Point {
	sum := prime.Zero()
	for i := range k.BitLen() {
		if k.Bit(i) == 1 {
			sum = sum.Add(of)
		}
		of = of.Double()
	}
	return sum
}

// P12.1: Order, Modulus

func TestOrderAndModulus(t *testing.T) {
	if got := prime.Order(); got != four(order) {
		t.Errorf("Order %x; want %x", number(got), order)
	}
	if got := prime.Modulus(); got != four(p) {
		t.Errorf("Modulus %x; want %x", number(got), p)
	}
}

// P12.1: Of

// readable holds Of of 33 bytes against the reference: x's root, by math/big.
func readable(t *testing.T, first byte, x *big.Int) bool {
	t.Helper()
	written := append([]byte{first}, x.FillBytes(make([]byte, 32))...)
	got, ok := prime.Of(written)
	var root *big.Int
	if x.Cmp(p) < 0 && (first == 2 || first == 3) {
		root = new(big.Int).ModSqrt(right(x), p)
	}
	if ok != (root != nil) {
		t.Errorf("%x: %v", written, ok)
		return ok
	}
	if !ok {
		if got != (prime.Point{}) {
			t.Errorf("%x: false, beside a point", written)
		}
		return false
	}
	if root.Bit(0) != uint(first&1) {
		root.Sub(p, root)
	}
	check(t, got, &pair{x, root}, "Of %x", written)
	if !bytes.Equal(got.Bytes(), written) {
		t.Errorf("%x: read, and written %x", written, got.Bytes())
	}
	return true
}

func TestOfMultiplesOfBase(t *testing.T) {
	var at *pair
	for k := range 60 {
		at = at.and(basePair())
		for _, side := range []*pair{at, at.other()} {
			got, ok := prime.Of(side.bytes())
			if !ok {
				t.Fatalf("%d: no point", k+1)
			}
			check(t, got, side, "%d times the base, of %x", k+1, side.bytes()[0])
		}
	}
}

func TestOfXAtEdges(t *testing.T) {
	numbers := slices.Concat(edges(), lone())
	for k := range int64(40) {
		numbers = append(numbers, n(k), minus(p, n(k)), plus(p, n(k)), minus(power(256), n(k+1)))
	}
	found := 0
	for _, x := range numbers {
		for _, first := range []byte{2, 3} {
			if readable(t, first, x) {
				found++
			}
		}
	}
	if found < len(numbers)/3 || found > 2*len(numbers)*2/3 {
		t.Errorf("%d points among %d", found, 2*len(numbers))
	}
	// These x do, and so would these behind p.
	for _, x := range []int64{0, 5, 6, 8, 9} {
		if !readable(t, 2, n(x)) || !readable(t, 3, n(x)) || readable(t, 2, plus(p, n(x))) || readable(t, 3, plus(p, n(x))) {
			t.Errorf("x %d, with p and without", x)
		}
	}
	for _, x := range []*big.Int{n(1), n(2), n(3), n(4), n(7), minus(p, n(1)), minus(p, n(2)), p, plus(p, n(1)), minus(power(256), n(1))} {
		if readable(t, 2, x) || readable(t, 3, x) {
			t.Errorf("x %x is a point's", x)
		}
	}
}

func TestOfStrangeX(t *testing.T) {
	found := 0
	for i := range uint64(200) {
		if readable(t, 2+byte(i&1), number(strange(100+i))) {
			found++
		}
	}
	if found < 60 || found > 140 {
		t.Errorf("%d points among 200", found)
	}
}

func TestOfFirstByte(t *testing.T) {
	for _, x := range []*big.Int{n(0), n(5), baseX, basePair().often(n(2)).x} {
		for first := range 256 {
			if got, want := readable(t, byte(first), x), first == 2 || first == 3; got != want {
				t.Errorf("%x behind %d: %v", x, first, got)
			}
		}
	}
}

// refused asks whether bytes are no point.
func refused(t *testing.T, written []byte) {
	t.Helper()
	if got, ok := prime.Of(written); ok || got != (prime.Point{}) {
		t.Errorf("%x: %v, %x", written, ok, got.Bytes())
	}
}

func TestOfRefusesOtherLengths(t *testing.T) {
	refused(t, nil)
	refused(t, []byte{})
	for first := range 256 {
		refused(t, []byte{byte(first)})
	}
	written := prime.Base().Bytes()
	for length := range 100 {
		if length == 33 {
			continue
		}
		for _, first := range []byte{0, 2, 3, 4, 255} {
			cut := make([]byte, length)
			copy(cut, written)
			if length > 0 {
				cut[0] = first
			}
			refused(t, cut)
		}
	}
	refused(t, written[1:])
	refused(t, append([]byte{0}, written...))
	refused(t, append([]byte{3}, written...))
	refused(t, make([]byte, 33))
}

// Both numbers behind a 4, as others write points.
func TestOfRefusesBothNumbers(t *testing.T) {
	both := slices.Concat(baseX.FillBytes(make([]byte, 32)), baseY.FillBytes(make([]byte, 32)))
	for first := range 256 {
		refused(t, append([]byte{byte(first)}, both...))
	}
	refused(t, both)
}

func TestOfRefusesNought(t *testing.T) {
	for _, nought := range []prime.Point{prime.Zero(), prime.Base().Add(prime.Base().Neg()), prime.Mul(prime.Order(), prime.Base())} {
		refused(t, nought.Bytes())
	}
}

// P12.1: From

func TestFrom(t *testing.T) {
	at := basePair().often(number(strange(3)))
	for i := range 100 {
		at = at.and(basePair())
		for _, side := range []*pair{at, at.other()} {
			got, ok := prime.From(four(side.x), four(side.y))
			if !ok {
				t.Fatalf("%x, %x: no point", side.x, side.y)
			}
			if i < 20 {
				check(t, got, side, "From %x, %x", side.x, side.y)
			} else {
				is(t, got, side, "From %x, %x", side.x, side.y)
			}
		}
	}
}

// noPair asks whether two numbers are no point.
func noPair(t *testing.T, x, y *big.Int) {
	t.Helper()
	if got, ok := prime.From(four(x), four(y)); ok || got != (prime.Point{}) {
		t.Errorf("%x, %x: %v, %x", x, y, ok, got.Bytes())
	}
}

func TestFromRefusesWhatIsNoPoint(t *testing.T) {
	noPair(t, n(0), n(0))
	noPair(t, n(1), n(1))
	for i := range uint64(60) {
		at := basePair().often(n(int64(i + 1)))
		if i > 20 {
			at = basePair().often(number(strange(300 + i)))
		}
		for _, off := range []*big.Int{n(1), n(-1)} {
			noPair(t, plus(at.x, off), at.y)
			noPair(t, at.x, plus(at.y, off))
		}
		noPair(t, at.y, at.x)
		noPair(t, n(0), at.y)
		noPair(t, at.x, n(0))
		next := at.and(basePair())
		if next != nil {
			noPair(t, at.x, next.y)
			noPair(t, next.x, at.y)
		}
		noPair(t, number(strange(400+i)), number(strange(500+i)))
		for bit := range uint(256) {
			if (bit+uint(i))%29 == 0 {
				noPair(t, new(big.Int).Xor(at.x, power(bit)), at.y)
				noPair(t, at.x, new(big.Int).Xor(at.y, power(bit)))
			}
		}
	}
}

// What is p or more is no point's, though its residue would do.
func TestFromRefusesPAndMore(t *testing.T) {
	for _, few := range []int64{0, 5, 6, 8, 9} {
		x := n(few)
		y := new(big.Int).ModSqrt(right(x), p)
		for _, side := range []*pair{{x, y}, {x, minus(p, y)}} {
			is(t, point(t, side), side, "x %d", few)
			noPair(t, plus(x, p), side.y)
		}
	}
	for _, x := range []struct {
		digits string
		y      int64
	}{
		{"6916fac45e568b6b9e2e2ecd611b282e5fcc40a3067d601057f879ce5a8a73cc", 1},
		{"8d0177ebab9c6e9e10db6dd095dbac0d6375e8a97b70f611875d877f0069d2c7", 1},
		{"9e78d4ef60d05f750f6636209092bc43cbdd6b47e11a9de20a9feb2a50bb96c", 1},
		{"cfe9c22cc6825c8aa62f56d3ddcaac9653eb03e08b283fbbc9fe1bd77607ce12", 4},
		{"9b21c2de1da31d68731dbdaf97d7ab3f979131e28e3dc5b2077d5a7187914a78", 6},
	} {
		low := &pair{number16(x.digits), n(x.y)}
		check(t, point(t, low), low, "y %d", x.y)
		check(t, point(t, low.other()), low.other(), "y -%d", x.y)
		noPair(t, low.x, plus(low.y, p))
	}
	ones := minus(power(256), n(1))
	for _, more := range []*big.Int{p, plus(p, n(1)), ones} {
		noPair(t, more, more)
		noPair(t, more, baseY)
		noPair(t, baseX, more)
		noPair(t, n(0), more)
		noPair(t, more, n(0))
	}
}

// P12.1: Bytes, Pair

func TestPairAndBytes(t *testing.T) {
	for _, s := range samples(t) {
		is(t, s.point, s.pair, "%s", s.name)
		is(t, s.point.Neg(), s.pair.other(), "the other side of %s", s.name)
	}
	at, sum := basePair(), prime.Base()
	for k := range 100 {
		is(t, sum, at, "%d times the base", k+1)
		is(t, sum.Neg(), at.other(), "-%d times the base", k+1)
		at, sum = at.and(basePair()), sum.Add(prime.Base())
	}
}

func TestNoughtsPairAndBytes(t *testing.T) {
	base := prime.Base()
	for i, nought := range []prime.Point{prime.Zero(), prime.Zero().Double(), prime.Zero().Neg(), base.Add(base.Neg()), prime.Mul(api.Four{}, base), prime.Mul(prime.Order(), base)} {
		check(t, nought, nil, "nought %d", i)
	}
}

func TestBasesBytes(t *testing.T) {
	want := "036b17d1f2e12c4247f8bce6e563a440f277037d812deb33a0f4a13945d898c296"
	if got := hex.EncodeToString(prime.Base().Bytes()); got != want {
		t.Errorf("%s; want %s", got, want)
	}
	if got := prime.Base().Neg().Bytes(); got[0] != 2 || hex.EncodeToString(got[1:]) != want[2:] {
		t.Errorf("the other side %x", got)
	}
}

// Lists that are handed out are the caller's.
func TestBytesAreNewMemory(t *testing.T) {
	for _, s := range samples(t) {
		first, second := s.point.Bytes(), s.point.Bytes()
		clear(first[:cap(first)])
		first[0] = 77
		if !bytes.Equal(second, s.pair.bytes()) || !bytes.Equal(s.point.Bytes(), s.pair.bytes()) {
			t.Errorf("%s: other bytes", s.name)
		}
	}
}

// P12.2: Zero, Base

func TestZeroAndBase(t *testing.T) {
	check(t, prime.Zero(), nil, "Zero")
	check(t, prime.Base(), basePair(), "Base")
}

// P12.2: Add, Double, Neg, Same

func TestAdd(t *testing.T) {
	all := samples(t)
	for _, s := range all {
		for _, o := range all {
			check(t, s.point.Add(o.point), s.pair.and(o.pair), "%s and %s", s.name, o.name)
			check(t, s.point.Add(o.point.Neg()), s.pair.and(o.pair.other()), "%s and the other side of %s", s.name, o.name)
		}
	}
}

// Each case that the chapter tells apart.
func TestAddCases(t *testing.T) {
	for _, s := range samples(t) {
		zero, other := prime.Zero(), prime.Base().Double()
		check(t, zero.Add(s.point), s.pair, "nought and %s", s.name)
		check(t, s.point.Add(zero), s.pair, "%s and nought", s.name)
		check(t, s.point.Add(s.point), s.pair.and(s.pair), "%s and itself", s.name)
		check(t, s.point.Add(point(t, s.pair)), s.pair.and(s.pair), "%s and the same, from its pair", s.name)
		check(t, s.point.Add(s.point.Neg()), nil, "%s and its other side", s.name)
		check(t, s.point.Neg().Add(s.point), nil, "the other side of %s and it", s.name)
		check(t, s.point.Add(point(t, s.pair.other())), nil, "%s and its other side, from its pair", s.name)
		check(t, point(t, s.pair.other()).Add(s.point), nil, "the other side, from its pair, and %s", s.name)
		check(t, s.point.Add(other).Add(other.Neg()), s.pair, "%s and another one, there and back", s.name)
	}
	check(t, prime.Zero().Add(prime.Zero()), nil, "nought and nought")
}

// The three points on one line, which all have the y 1, come to nought.
func TestAddOnALine(t *testing.T) {
	one := &pair{number16("6916fac45e568b6b9e2e2ecd611b282e5fcc40a3067d601057f879ce5a8a73cc"), n(1)}
	two := &pair{number16("8d0177ebab9c6e9e10db6dd095dbac0d6375e8a97b70f611875d877f0069d2c7"), n(1)}
	three := &pair{number16("9e78d4ef60d05f750f6636209092bc43cbdd6b47e11a9de20a9feb2a50bb96c"), n(1)}
	check(t, point(t, one).Add(point(t, two)), three.other(), "one and two")
	check(t, point(t, two).Add(point(t, three)), one.other(), "two and three")
	check(t, point(t, three).Add(point(t, one)), two.other(), "three and one")
	check(t, point(t, one).Add(point(t, two)).Add(point(t, three)), nil, "all three")
}

func TestDouble(t *testing.T) {
	for _, s := range samples(t) {
		got, want := s.point, s.pair
		for k := range 12 {
			got, want = got.Double(), want.and(want)
			check(t, got, want, "%s, doubled %d times", s.name, k+1)
		}
		same(t, s.point.Double(), s.point.Add(s.point), "%s, doubled", s.name)
	}
	check(t, prime.Zero().Double(), nil, "nought, doubled")
}

func TestNeg(t *testing.T) {
	for _, s := range samples(t) {
		check(t, s.point.Neg(), s.pair.other(), "the other side of %s", s.name)
		check(t, s.point.Neg().Neg(), s.pair, "the other side's other side of %s", s.name)
	}
}

func TestSame(t *testing.T) {
	all := samples(t)
	for _, s := range all {
		for _, o := range all {
			want := s.of.Cmp(o.of) == 0
			if got := s.point.Same(o.point); got != want {
				t.Errorf("%s and %s: %v", s.name, o.name, got)
			}
			if got := s.point.Neg().Same(o.point.Neg()); got != want {
				t.Errorf("the other sides of %s and %s: %v", s.name, o.name, got)
			}
			opposite := new(big.Int).Mod(plus(s.of, o.of), order).Sign() == 0
			if got := s.point.Neg().Same(o.point); got != opposite {
				t.Errorf("the other side of %s and %s: %v", s.name, o.name, got)
			}
		}
	}
}

// The same x or the same y alone won't do.
func TestSameAsksForBoth(t *testing.T) {
	one := point(t, &pair{number16("6916fac45e568b6b9e2e2ecd611b282e5fcc40a3067d601057f879ce5a8a73cc"), n(1)})
	two := point(t, &pair{number16("8d0177ebab9c6e9e10db6dd095dbac0d6375e8a97b70f611875d877f0069d2c7"), n(1)})
	for i, x := range [][2]prime.Point{{one, two}, {one, one.Neg()}, {one, two.Neg()}, {one, prime.Zero()}, {prime.Zero(), one}} {
		if x[0].Same(x[1]) || x[1].Same(x[0]) {
			t.Errorf("pair %d: the same", i)
		}
	}
}

// One point, that came in many ways.
func TestSameOfMoreWays(t *testing.T) {
	base := prime.Base()
	read, ok := prime.Of(base.Double().Double().Double().Bytes())
	if !ok {
		t.Fatal("no point")
	}
	twice := base.Double()
	ways := []prime.Point{
		read, added(8, base), added(4, twice), base.Double().Double().Double(), prime.Mul(api.Four{8}, base), prime.Mul(api.Four{2}, added(4, base)),
		prime.Both(api.Four{3}, base, api.Four{5}, base), prime.Both(api.Four{10}, base, api.Four{1}, twice.Neg()), prime.Mul(four(plus(order, n(8))), base), read.Neg().Neg(),
		prime.Mul(four(minus(order, n(8))), base).Neg(), prime.Mul(four(minus(order, n(8))), base.Neg()), read.Add(twice).Add(twice.Neg()),
	}
	for i, a := range ways {
		check(t, a, basePair().often(n(8)), "way %d", i)
		for j, b := range ways {
			if !a.Same(b) {
				t.Errorf("ways %d and %d: not the same", i, j)
			}
		}
	}
}

// P12.2: Mul

func TestMulOfFew(t *testing.T) {
	t.Parallel()
	for _, s := range samples(t) {
		var want *pair
		sum := prime.Zero()
		for k := range uint64(70) {
			got := prime.Mul(api.Four{k}, s.point)
			check(t, got, want, "%d times %s", k, s.name)
			same(t, got, sum, "%d times %s, one by one", k, s.name)
			want, sum = want.and(s.pair), sum.Add(s.point)
		}
	}
}

func TestMulAtEdges(t *testing.T) {
	t.Parallel()
	for _, s := range samples(t) {
		for _, k := range slices.Concat(edges(), lone()) {
			same(t, prime.Mul(four(k), s.point), doubled(k, s.point), "%x times %s", k, s.name)
		}
	}
}

func TestMulAtEdgesInWords(t *testing.T) {
	t.Parallel()
	all := samples(t)
	for i, k := range slices.Concat(edges(), lone()) {
		s := all[i%len(all)]
		check(t, prime.Mul(four(k), s.point), s.pair.often(k), "%x times %s", k, s.name)
		check(t, prime.Mul(four(k), prime.Base()), basePair().often(k), "%x times the base", k)
	}
}

// All numbers below p are numbers of points here, p or more too.
func TestMulOfStrangeNumbers(t *testing.T) {
	t.Parallel()
	for i, s := range samples(t) {
		for j := range uint64(4) {
			k := number(strange(1000 + 4*uint64(i) + j))
			k.Rsh(k, uint(61*j))
			got := prime.Mul(four(k), s.point)
			check(t, got, s.pair.often(k), "%x times %s", k, s.name)
			rest := new(big.Int).Mod(times(k, s.of), order)
			same(t, got, doubled(rest, prime.Base()), "%x times %s, modulo the order", k, s.name)
		}
	}
}

// One group of four bits alone: each group, each value of it.
func TestMulOfOneGroup(t *testing.T) {
	t.Parallel()
	for i, s := range samples(t) {
		if i%4 != 1 {
			continue
		}
		of := s.point
		for group := range 64 {
			for bits := range uint64(16) {
				if i == 1 || (int(bits)+group+i)%5 == 0 {
					var k api.Four
					k[group/16] = bits << (group % 16 * 4)
					same(t, prime.Mul(k, s.point), added(bits, of), "%x times %s", k, s.name)
				}
			}
			of = of.Double().Double().Double().Double()
		}
	}
}

// One group of four bits alone that's 0, or less than all ones.
func TestMulOfAllGroupsButOne(t *testing.T) {
	t.Parallel()
	all := samples(t)
	for _, s := range []sample{all[1], all[3], all[len(all)-1]} {
		for group := range 64 {
			for _, bits := range []uint64{1, 8, 15} {
				k := api.Four{1<<64 - 1, 1<<64 - 1, 1<<64 - 1, 1<<64 - 1}
				k[group/16] ^= bits << (group % 16 * 4)
				same(t, prime.Mul(k, s.point), doubled(number(k), s.point), "%x times %s", k, s.name)
			}
		}
	}
}

func TestMulOfMultiples(t *testing.T) {
	t.Parallel()
	half := new(big.Int).Rsh(number(strange(400)), 128)
	for _, s := range samples(t) {
		for _, x := range [][2]*big.Int{
			{n(0), half}, {half, n(0)}, {n(1), half}, {half, n(1)}, {n(16), half}, {order, n(1)}, {n(1), order},
			{power(64), half}, {half, half}, {minus(power(128), n(1)), plus(power(127), n(1))},
		} {
			got := prime.Mul(four(x[1]), prime.Mul(four(x[0]), s.point))
			same(t, got, prime.Mul(four(times(x[0], x[1])), s.point), "%d times %d times %s", x[1], x[0], s.name)
		}
	}
}

// Keys that are published, and those that Go makes of secrets.
func TestMulMakesPublicKeys(t *testing.T) {
	published := map[string]string{
		"0000000000000000000000000000000000000000000000000000000000000002": "037cf27b188d034f7e8a52380304b51ac3c08969e277f21b35a60b48fc47669978",
		"c9afa9d845ba75166b5c215767b1d6934e50c3db36e89b127b8a622b120f6721": "0360fed4ba255a9d31c961eb74c6356d68c049b8923b61fa6ce669622e60f29fb6",
		"ffffffff00000000ffffffffffffffffbce6faada7179e84f3b9cac2fc632550": "026b17d1f2e12c4247f8bce6e563a440f277037d812deb33a0f4a13945d898c296",
	}
	for secret, key := range published {
		if got := hex.EncodeToString(prime.Mul(four(number16(secret)), prime.Base()).Bytes()); got != key {
			t.Errorf("%s: %s; want %s", secret, got, key)
		}
	}
	for i := range uint64(60) {
		k := number(strange(600 + i))
		if k.Cmp(order) >= 0 {
			continue
		}
		secret, err := ecdh.P256().NewPrivateKey(k.FillBytes(make([]byte, 32)))
		if err != nil {
			t.Fatal(err)
		}
		x, y, ok := prime.Mul(four(k), prime.Base()).Pair()
		got := slices.Concat([]byte{4}, number(x).FillBytes(make([]byte, 32)), number(y).FillBytes(make([]byte, 32)))
		if !ok || !bytes.Equal(got, secret.PublicKey().Bytes()) {
			t.Errorf("%x: %x; want %x", k, got, secret.PublicKey().Bytes())
		}
	}
}

// P12.2: Both

// pairs are points that come together: some with themselves, with their other sides, with nought, with others.
func pairs(t *testing.T) [][2]sample {
	t.Helper()
	all := samples(t)
	var found [][2]sample
	for i, s := range all {
		other := sample{"the other side of " + s.name, new(big.Int).Neg(s.of), s.pair.other(), s.point.Neg()}
		again := sample{s.name + ", from its pair", s.of, s.pair, point(t, s.pair)}
		back := sample{"the other side of " + s.name + ", from its pair", other.of, other.pair, point(t, other.pair)}
		next := all[(i+5)%len(all)]
		found = append(found, [2]sample{s, s}, [2]sample{s, again}, [2]sample{s, other}, [2]sample{s, back}, [2]sample{s, all[0]}, [2]sample{all[0], s}, [2]sample{s, next}, [2]sample{all[1], s})
	}
	return found
}

// both holds a sum of two multiples against two multiples' sum, and against the base's multiple that it has to be.
func both(t *testing.T, k, l *big.Int, two [2]sample) {
	t.Helper()
	got := prime.Both(four(k), two[0].point, four(l), two[1].point)
	same(t, got, prime.Mul(four(k), two[0].point).Add(prime.Mul(four(l), two[1].point)), "%x times %s and %x times %s", k, two[0].name, l, two[1].name)
	rest := new(big.Int).Mod(plus(times(k, two[0].of), times(l, two[1].of)), order)
	same(t, got, doubled(rest, prime.Base()), "%x times %s and %x times %s, modulo the order", k, two[0].name, l, two[1].name)
}

func TestBothOfFew(t *testing.T) {
	t.Parallel()
	for _, two := range pairs(t) {
		for _, k := range []uint64{0, 1, 2, 3, 15, 16, 17} {
			for _, l := range []uint64{0, 1, 2, 3, 15, 16, 17} {
				got := prime.Both(api.Four{k}, two[0].point, api.Four{l}, two[1].point)
				same(t, got, added(k, two[0].point).Add(added(l, two[1].point)), "%d times %s and %d times %s", k, two[0].name, l, two[1].name)
			}
		}
	}
}

func TestBothAtEdges(t *testing.T) {
	t.Parallel()
	found, numbers := pairs(t), slices.Concat(edges(), lone())
	for i, k := range numbers {
		for j, l := range numbers {
			if (i+j)%3 == 0 || i == j {
				both(t, k, l, found[(len(numbers)*i+j)%len(found)])
			}
		}
	}
}

// Each pair, at those edges where one number is 0, less long than the other, or as long.
func TestBothOfAllPairs(t *testing.T) {
	t.Parallel()
	top := minus(power(256), n(1))
	for i, two := range pairs(t) {
		k := number(strange(uint64(700 + i)))
		for _, x := range [][2]*big.Int{
			{n(0), n(0)}, {n(0), k}, {k, n(0)}, {n(0), top}, {top, n(0)}, {n(1), k}, {k, n(1)}, {k, k}, {k, number(strange(uint64(900 + i)))},
			{order, order}, {order, n(1)}, {n(1), order}, {minus(order, n(1)), plus(order, n(1))}, {top, top}, {power(64), power(192)}, {power(255), n(15)},
		} {
			both(t, x[0], x[1], two)
		}
	}
}

func TestBothInWords(t *testing.T) {
	t.Parallel()
	for i, two := range pairs(t) {
		k, l := strange(uint64(1300+2*i)), strange(uint64(1301+2*i))
		want := two[0].pair.often(number(k)).and(two[1].pair.often(number(l)))
		check(t, prime.Both(k, two[0].point, l, two[1].point), want, "%x times %s and %x times %s", k, two[0].name, l, two[1].name)
		check(t, prime.Both(l, two[1].point, k, two[0].point), want, "%x times %s and %x times %s", l, two[1].name, k, two[0].name)
	}
}

// What two sides leave is nought.
func TestBothOfOneNumberAndTwoSides(t *testing.T) {
	t.Parallel()
	for i, s := range samples(t) {
		for _, k := range append(edges(), number(strange(uint64(1600+i)))) {
			got := prime.Both(four(k), s.point, four(k), s.point.Neg())
			if !got.Same(prime.Zero()) || !bytes.Equal(got.Bytes(), []byte{0}) {
				t.Errorf("%x times %s and its other side: %x", k, s.name, got.Bytes())
			}
		}
	}
}

// P12.3: a group

func TestSumsGoInAnyOrder(t *testing.T) {
	all := samples(t)
	for _, s := range all {
		for _, o := range all {
			same(t, s.point.Add(o.point), o.point.Add(s.point), "%s and %s", s.name, o.name)
		}
	}
}

func TestSumsAreGroupedAsOneLikes(t *testing.T) {
	all := samples(t)
	for i, s := range all {
		for j, o := range all {
			for k, l := range all {
				if (i+j+k)%2 == 0 || i == j || j == k {
					left, right := s.point.Add(o.point).Add(l.point), s.point.Add(o.point.Add(l.point))
					if !left.Same(right) {
						t.Errorf("%s, %s, %s", s.name, o.name, l.name)
					}
				}
			}
		}
	}
}

func TestMultiplesAddUp(t *testing.T) {
	t.Parallel()
	for i, s := range samples(t) {
		for j, two := range [][2]*big.Int{
			{n(1), minus(order, n(1))}, {order, n(1)}, {n(15), n(1)}, {n(16), n(16)}, {power(255), minus(power(255), n(1))}, {power(64), power(128)},
			{new(big.Int).Rsh(number(strange(uint64(2000+i))), 1), new(big.Int).Rsh(number(strange(uint64(2100+i))), 1)},
		} {
			got := prime.Mul(four(two[0]), s.point).Add(prime.Mul(four(two[1]), s.point))
			same(t, got, prime.Mul(four(plus(two[0], two[1])), s.point), "%s, %d", s.name, j)
		}
	}
	all := samples(t)
	for i, s := range all {
		o, k := all[(3*i+2)%len(all)], strange(uint64(2200+i))
		got := prime.Mul(k, s.point).Add(prime.Mul(k, o.point))
		same(t, got, prime.Mul(k, s.point.Add(o.point)), "%x times %s and %s", k, s.name, o.name)
		same(t, prime.Mul(k, s.point.Neg()), prime.Mul(k, s.point).Neg(), "%x times the other side of %s", k, s.name)
	}
}

// P12.3: the order

func TestOrderTimesAnyPointIsNought(t *testing.T) {
	t.Parallel()
	all := samples(t)
	for i := range uint64(40) {
		x := strange(3000 + i)
		written := append([]byte{2 + byte(i&1)}, number(x).FillBytes(make([]byte, 32))...)
		if found, ok := prime.Of(written); ok {
			all = append(all, sample{fmt.Sprintf("x %x", x), nil, nil, found})
		}
	}
	for _, s := range all {
		got := prime.Mul(prime.Order(), s.point)
		if !got.Same(prime.Zero()) || !bytes.Equal(got.Bytes(), []byte{0}) {
			t.Errorf("the order times %s: %x", s.name, got.Bytes())
		}
		same(t, prime.Mul(four(plus(order, n(1))), s.point), s.point, "the order and one times %s", s.name)
		same(t, prime.Mul(four(minus(order, n(1))), s.point), s.point.Neg(), "the order less one times %s", s.name)
		if _, _, ok := s.point.Pair(); ok && s.point.Same(prime.Zero()) {
			t.Errorf("%s is nought", s.name)
		}
	}
}

// P12.3: what is written is read

func TestWhatIsWrittenIsRead(t *testing.T) {
	for _, s := range samples(t) {
		for _, of := range []prime.Point{s.point, s.point.Neg(), s.point.Double(), s.point.Add(prime.Base())} {
			x, y, ok := of.Pair()
			if !ok {
				refused(t, of.Bytes())
				continue
			}
			read, found := prime.Of(of.Bytes())
			if !found {
				t.Fatalf("%s: %x is not read", s.name, of.Bytes())
			}
			same(t, read, of, "%s, by bytes", s.name)
			read, found = prime.From(x, y)
			if !found {
				t.Fatalf("%s: %x, %x is not read", s.name, x, y)
			}
			same(t, read, of, "%s, by its pair", s.name)
		}
	}
}

// What holds of all calls.

func TestNothingHandedInIsChanged(t *testing.T) {
	for i, two := range pairs(t) {
		k, l := strange(uint64(5000+i)), strange(uint64(6000+i))
		a, b := two[0].point, two[1].point
		prime.Mul(k, a)
		prime.Both(k, a, l, b)
		a.Add(b)
		a.Double()
		a.Neg()
		a.Same(b)
		a.Pair()
		a.Bytes()
		if k != strange(uint64(5000+i)) || l != strange(uint64(6000+i)) || a != two[0].point || b != two[1].point {
			t.Errorf("pair %d: changed", i)
		}
		is(t, a, two[0].pair, "pair %d, behind all calls", i)
		is(t, b, two[1].pair, "pair %d, behind all calls", i)
		written := two[0].pair.bytes()
		room := append(slices.Clone(written), 7, 7, 7)
		prime.Of(room[:len(written)])
		if !bytes.Equal(room[:len(written)], written) || !bytes.Equal(room[len(written):], []byte{7, 7, 7}) {
			t.Errorf("pair %d: other bytes", i)
		}
	}
}

// Bytes that were read may be written over: the point stays.
func TestOfKeepsNothing(t *testing.T) {
	written := prime.Base().Bytes()
	got, ok := prime.Of(written)
	if !ok {
		t.Fatal("no point")
	}
	clear(written)
	check(t, got, basePair(), "the base, behind that its bytes are written over")
}

func TestSameAgain(t *testing.T) {
	for i, two := range pairs(t) {
		k, l := strange(uint64(7000+i)), strange(uint64(8000+i))
		a, b := two[0].point, two[1].point
		once, sum := prime.Mul(k, a).Bytes(), prime.Both(k, a, l, b).Bytes()
		prime.Mul(l, b)
		if !bytes.Equal(prime.Mul(k, a).Bytes(), once) || !bytes.Equal(prime.Both(k, a, l, b).Bytes(), sum) {
			t.Errorf("pair %d: another answer", i)
		}
	}
}

// Of plain Points nothing is promised but an end.
func TestPlainPointsEnd(t *testing.T) {
	for _, other := range []prime.Point{{}, prime.Zero(), prime.Base(), prime.Base().Double()} {
		for _, two := range [][2]prime.Point{{{}, other}, {other, {}}} {
			a, b := two[0], two[1]
			a.Add(b).Bytes()
			a.Add(b).Double().Neg().Pair()
			a.Same(b)
			a.Neg().Bytes()
			a.Pair()
			for _, k := range edges() {
				prime.Mul(four(k), a).Bytes()
				prime.Both(four(k), a, four(k), b).Bytes()
				prime.Both(api.Four{1}, a, four(k), b).Add(a).Bytes()
			}
		}
	}
}
