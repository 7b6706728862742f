package ring

import (
	"math"
	"math/big"
	"math/rand/v2"
	"slices"
	"testing"

	"cleromancy/api"
)

const ones = math.MaxUint64

var (
	nought = api.Four{}
	top    = api.Four{ones, ones, ones, ones} // the greatest odd number of four words; no prime

	// The moduli that later layers need, and the greatest prime of four words.
	prime255   = api.Four{ones - 18, ones, ones, ones >> 1}                                                        // 2^255 - 19
	order255   = api.Four{0x5812631a5cf5d3ed, 0x14def9dea2f79cd6, 0, 1 << 60}                                      // of Edwards25519
	prime256   = api.Four{ones, 1<<32 - 1, 0, 0xffffffff00000001}                                                  // of P-256
	order256   = api.Four{0xf3b9cac2fc632551, 0xbce6faada7179e84, 0xffffffffffffffff, 0xffffffff00000000}          // likewise
	primeAtTop = api.Four{ones - 188, ones, ones, ones}                                                            // 2^256 - 189
	primes     = []api.Four{{3}, {5}, {7}, {101}, {ones - 58}, prime255, order255, prime256, order256, primeAtTop} // all of them primes
	composites = []api.Four{{9}, {15}, {561}, {ones}, {1, 1}, {ones, ones}, {1, 0, 1}, {ones, ones, ones}, {1, 0, 0, 1}, {1, 0, 0, 1 << 63}, {ones, 0, 0, ones}, {1, ones, ones, ones}, top}
)

func moduli() []api.Four {
	list := slices.Concat(primes, composites)
	r := rand.New(rand.NewPCG(5, 6))
	for range 6 {
		list = append(list, api.Four{r.Uint64() | 1, r.Uint64(), r.Uint64(), r.Uint64()})
	}
	return list
}

// edges are numbers of these words alone, in every order: with 0 and all ones carries begin and end in every word.
func edges(words ...uint64) []api.Four {
	list := []api.Four{{}}
	for i := range 4 {
		var longer []api.Four
		for _, a := range list {
			for _, w := range words {
				a[i] = w
				longer = append(longer, a)
			}
		}
		list = longer
	}
	return list
}

// beside are numbers at, below and above multiples of a modulus and of its half, as far as they have four words, and some that have no pattern; the same in every run.
func beside(m api.Four) []api.Four {
	last := new(big.Int).Div(four(top), four(m))
	var list []api.Four
	for _, times := range []*big.Int{big.NewInt(0), big.NewInt(1), big.NewInt(2), big.NewInt(3), last} {
		middle := new(big.Int).Mul(times, four(m))
		half := new(big.Int).Rsh(middle, 1)
		for d := range int64(5) {
			for _, n := range []*big.Int{middle, half} {
				n = new(big.Int).Add(n, big.NewInt(d-2))
				if n.Sign() >= 0 && n.BitLen() <= 256 {
					list = append(list, words4(n))
				}
			}
		}
	}
	r := rand.New(rand.NewPCG(7, 8))
	for range 20 {
		list = append(list, api.Four{r.Uint64(), r.Uint64(), r.Uint64(), r.Uint64()})
	}
	return list
}

func natural(words ...uint64) *big.Int {
	n := new(big.Int)
	for _, w := range slices.Backward(words) {
		n.Lsh(n, 64)
		n.Or(n, new(big.Int).SetUint64(w))
	}
	return n
}

func four(a api.Four) *big.Int { return natural(a[:]...) }

// words4 is four's way back.
func words4(n *big.Int) api.Four {
	var a api.Four
	n = new(big.Int).Set(n)
	for i := range a {
		a[i] = new(big.Int).And(n, natural(ones)).Uint64()
		n.Rsh(n, 64)
	}
	return a
}

// reference says by other means what a ring of m has to answer.
type reference struct {
	m, scale, back *big.Int // back is what 2^256, the scale, is 1 by
}

func referenceOf(m api.Four) reference {
	scale := new(big.Int).Lsh(big.NewInt(1), 256)
	return reference{four(m), scale, new(big.Int).ModInverse(scale, four(m))}
}

func (f reference) reduce(n *big.Int) api.Four { return words4(new(big.Int).Mod(n, f.m)) }

func (f reference) in(n *big.Int) api.Four { return f.reduce(new(big.Int).Mul(n, f.scale)) }

func (f reference) out(a api.Four) *big.Int {
	n := new(big.Int).Mul(four(a), f.back)
	return n.Mod(n, f.m)
}

func (f reference) exp(a, e api.Four) api.Four {
	return f.in(new(big.Int).Exp(f.out(a), four(e), f.m))
}

func must(t *testing.T, m api.Four) *Ring {
	t.Helper()
	r, e := New(m)
	if r == nil || e != api.OK {
		t.Fatalf("New(%x) = %v, %d", m, r, e)
	}
	return r
}

// rings goes through all moduli.
func rings(t *testing.T, look func(r *Ring, f reference, m api.Four)) {
	t.Helper()
	for _, m := range moduli() {
		look(must(t, m), referenceOf(m), m)
	}
}

// numbers are what a ring is tried with: edges of words, and of its modulus.
func numbers(m api.Four) []api.Four { return slices.Concat(edges(0, 1, ones), beside(m)) }

// some are fewer of these, for pairs.
func some(m api.Four) []api.Four { return slices.Concat(edges(0, ones), beside(m)) }

// pairs goes through all pairs of a list.
func pairs(list []api.Four, look func(a, b api.Four)) {
	for _, a := range list {
		for _, b := range list {
			look(a, b)
		}
	}
}

// few are those that tell most, for three of them at a time, and for powers.
func few(m api.Four) []api.Four {
	below, above := m, m
	below[0]--
	above[0]++ // m is odd, but it may be all ones in its lowest word: then this is another number, which is as good
	return []api.Four{nought, {1}, {2}, below, m, above, top, {5, 6, 7, 8}, {0, 0, 0, 1 << 63}}
}

// The example

func TestOfSeven(t *testing.T) {
	r := must(t, api.Four{7})
	if got := r.Out(r.Times(r.In(api.Four{3}), r.In(api.Four{5}))); got != (api.Four{1}) {
		t.Errorf("3 times 5 modulo 7 = %x", got)
	}
}

// P3.1

func TestNewOfWhatIsNoModulus(t *testing.T) {
	for _, m := range []api.Four{{}, {1}, {2}, {4}, {8}, {ones - 1}, {0, 1}, {0, 0, 1}, {0, 0, 0, 1}, {0, ones, ones, ones}, {2, 1, 1, 1}, {ones - 1, ones, ones, ones}} {
		if r, e := New(m); r != nil || e != api.ErrArg {
			t.Errorf("New(%x) = %v, %d", m, r, e)
		}
	}
}

func TestNewOfWhatIsOneInItsLowestWordAlone(t *testing.T) {
	for _, m := range []api.Four{{1, 1}, {1, 0, 1}, {1, 0, 0, 1}, {1, ones, ones, ones}} {
		must(t, m)
	}
}

func TestModulus(t *testing.T) {
	rings(t, func(r *Ring, _ reference, m api.Four) {
		if got := r.Modulus(); got != m {
			t.Errorf("Modulus of %x = %x", m, got)
		}
	})
}

func TestReduceOfExamples(t *testing.T) {
	for _, x := range []struct{ m, a, want api.Four }{
		{api.Four{3}, nought, nought},
		{api.Four{3}, api.Four{2}, api.Four{2}},
		{api.Four{3}, api.Four{3}, nought},
		{api.Four{3}, api.Four{4}, api.Four{1}},
		{api.Four{3}, top, nought},
		{api.Four{7}, top, api.Four{1}},
		{api.Four{101}, api.Four{1000}, api.Four{91}},
		{api.Four{ones}, api.Four{0, 1}, api.Four{1}},
		{top, top, nought},
		{top, api.Four{ones - 1, ones, ones, ones}, api.Four{ones - 1, ones, ones, ones}},
		{prime255, top, api.Four{37}},
		{primeAtTop, top, api.Four{188}},
		{prime256, prime256, nought},
	} {
		if got := must(t, x.m).Reduce(x.a); got != x.want {
			t.Errorf("%x modulo %x = %x; want %x", x.a, x.m, got, x.want)
		}
	}
}

func TestReduce(t *testing.T) {
	rings(t, func(r *Ring, f reference, m api.Four) {
		for _, a := range numbers(m) {
			if got := r.Reduce(a); got != f.reduce(four(a)) {
				t.Fatalf("%x modulo %x = %x", a, m, got)
			}
		}
	})
}

func TestWideOfExamples(t *testing.T) {
	full := api.Eight{ones, ones, ones, ones, ones, ones, ones, ones}
	for _, x := range []struct {
		m    api.Four
		a    api.Eight
		want api.Four
	}{
		{api.Four{3}, api.Eight{}, nought},
		{api.Four{3}, full, nought},
		{api.Four{7}, full, api.Four{3}},
		{api.Four{101}, api.Eight{1000}, api.Four{91}},
		{api.Four{101}, api.Eight{4: 1}, api.Four{37}},
		{top, full, nought},
		{top, api.Eight{4: 1}, api.Four{1}},
		{top, api.Eight{4: ones, ones, ones, ones}, nought},
		{prime255, api.Eight{4: 1}, api.Four{38}},
		{prime255, full, api.Four{38*38 - 1}},
		{primeAtTop, full, api.Four{189*189 - 1}},
		{primeAtTop, api.Eight{ones - 188, ones, ones, ones}, nought},
	} {
		if got := must(t, x.m).Wide(x.a); got != x.want {
			t.Errorf("%x modulo %x = %x; want %x", x.a, x.m, got, x.want)
		}
	}
}

func TestWideOfAllPairsOfHalves(t *testing.T) {
	rings(t, func(r *Ring, f reference, m api.Four) {
		pairs(some(m), func(low, high api.Four) {
			a := api.Eight{low[0], low[1], low[2], low[3], high[0], high[1], high[2], high[3]}
			if got := r.Wide(a); got != f.reduce(natural(a[:]...)) {
				t.Fatalf("%x modulo %x = %x", a, m, got)
			}
		})
	})
}

// P3.2

func TestInAndOut(t *testing.T) {
	rings(t, func(r *Ring, f reference, m api.Four) {
		for _, a := range numbers(m) {
			in := r.In(a)
			if in != f.in(four(a)) {
				t.Fatalf("In(%x) modulo %x = %x", a, m, in)
			}
			if got := r.Out(in); got != f.reduce(four(a)) {
				t.Fatalf("Out(In(%x)) modulo %x = %x", a, m, got)
			}
			out := r.Out(a)
			if out != words4(f.out(a)) {
				t.Fatalf("Out(%x) modulo %x = %x", a, m, out)
			}
			if got := r.In(out); got != f.reduce(four(a)) {
				t.Fatalf("In(Out(%x)) modulo %x = %x", a, m, got)
			}
		}
	})
}

func TestInOfExamples(t *testing.T) {
	for _, x := range []struct{ m, a, want api.Four }{
		{api.Four{3}, api.Four{2}, api.Four{2}},
		{api.Four{7}, api.Four{1}, api.Four{2}},
		{api.Four{7}, api.Four{8}, api.Four{2}},
		{api.Four{101}, api.Four{1}, api.Four{37}},
		{top, api.Four{5}, api.Four{5}},
		{top, top, nought},
		{prime255, api.Four{2}, api.Four{76}},
		{primeAtTop, api.Four{3}, api.Four{567}},
	} {
		if got := must(t, x.m).In(x.a); got != x.want {
			t.Errorf("In(%x) modulo %x = %x; want %x", x.a, x.m, got, x.want)
		}
	}
}

func TestPlusAndMinusOfExamples(t *testing.T) {
	below := api.Four{ones - 1, ones, ones, ones}
	for _, x := range []struct{ m, a, b, plus, minus api.Four }{
		{api.Four{3}, api.Four{2}, api.Four{2}, api.Four{1}, nought},
		{api.Four{3}, api.Four{1}, api.Four{2}, nought, api.Four{2}},
		{api.Four{101}, api.Four{70}, api.Four{50}, api.Four{19}, api.Four{20}},
		{api.Four{101}, api.Four{3}, api.Four{5}, api.Four{8}, api.Four{99}},
		{api.Four{101}, api.Four{201}, api.Four{102}, nought, api.Four{99}},
		{top, below, below, api.Four{ones - 2, ones, ones, ones}, nought},
		{top, nought, below, below, api.Four{1}},
		{top, below, api.Four{1}, nought, api.Four{ones - 2, ones, ones, ones}},
		{top, top, api.Four{1}, api.Four{1}, below},
		{prime255, top, top, api.Four{74}, nought},
	} {
		r := must(t, x.m)
		if got := r.Plus(x.a, x.b); got != x.plus {
			t.Errorf("Plus(%x, %x) modulo %x = %x; want %x", x.a, x.b, x.m, got, x.plus)
		}
		if got := r.Minus(x.a, x.b); got != x.minus {
			t.Errorf("Minus(%x, %x) modulo %x = %x; want %x", x.a, x.b, x.m, got, x.minus)
		}
	}
}

func TestPlusMinusAndTimesOfAllPairs(t *testing.T) {
	rings(t, func(r *Ring, f reference, m api.Four) {
		pairs(some(m), func(a, b api.Four) {
			n := new(big.Int)
			if got := r.Plus(a, b); got != f.reduce(n.Add(four(a), four(b))) {
				t.Fatalf("Plus(%x, %x) modulo %x = %x", a, b, m, got)
			}
			if got := r.Minus(a, b); got != f.reduce(n.Sub(four(a), four(b))) {
				t.Fatalf("Minus(%x, %x) modulo %x = %x", a, b, m, got)
			}
			n.Mul(four(a), four(b))
			if got := r.Times(a, b); got != f.reduce(n.Mul(n, f.back)) {
				t.Fatalf("Times(%x, %x) modulo %x = %x", a, b, m, got)
			}
		})
	})
}

func TestResiduesOfSmallRings(t *testing.T) {
	for m := uint64(3); m < 40; m += 2 {
		r := must(t, api.Four{m})
		for x := range 2 * m {
			for y := range 2 * m {
				a, b := r.In(api.Four{x}), r.In(api.Four{y})
				sum, rest, product := r.Out(r.Plus(a, b)), r.Out(r.Minus(a, b)), r.Out(r.Times(a, b))
				if sum != (api.Four{(x + y) % m}) || rest != (api.Four{(x + 2*m - y) % m}) || product != (api.Four{x * y % m}) {
					t.Fatalf("%d and %d modulo %d: %x, %x, %x", x, y, m, sum, rest, product)
				}
			}
		}
	}
}

// P3.3

func TestExpOfExamples(t *testing.T) {
	for _, x := range []struct{ m, a, e, want api.Four }{
		{api.Four{3}, api.Four{2}, top, api.Four{2}},
		{api.Four{101}, api.Four{2}, api.Four{10}, api.Four{14}},
		{api.Four{101}, nought, nought, api.Four{1}},
		{api.Four{101}, nought, api.Four{1}, nought},
		{api.Four{101}, nought, top, nought},
		{api.Four{101}, api.Four{1}, top, api.Four{1}},
		{api.Four{101}, api.Four{100}, top, api.Four{100}},
		{api.Four{9}, api.Four{3}, api.Four{2}, nought},
		{api.Four{15}, api.Four{2}, api.Four{0, 0, 0, 1}, api.Four{1}},
		{top, api.Four{2}, api.Four{255}, api.Four{0, 0, 0, 1 << 63}},
		{top, api.Four{2}, api.Four{256}, api.Four{1}},
		{prime255, api.Four{2}, api.Four{255}, api.Four{19}},
	} {
		r := must(t, x.m)
		if got := r.Out(r.Exp(r.In(x.a), x.e)); got != x.want {
			t.Errorf("%x to the %x modulo %x = %x; want %x", x.a, x.e, x.m, got, x.want)
		}
	}
}

func TestExpToTheNoughthIsOne(t *testing.T) {
	rings(t, func(r *Ring, f reference, m api.Four) {
		for _, a := range numbers(m) {
			if got := r.Exp(a, nought); got != f.in(big.NewInt(1)) {
				t.Fatalf("%x to the 0th modulo %x = %x", a, m, got)
			}
			if got := r.Exp(a, api.Four{1}); got != f.reduce(four(a)) {
				t.Fatalf("%x to the 1st modulo %x = %x", a, m, got)
			}
		}
	})
}

func TestExp(t *testing.T) {
	powers := []api.Four{nought, {1}, {2}, {3}, {ones}, {0, 1}, {0, 0, 0, 1 << 63}, {5, 6, 7, 8}, top}
	rings(t, func(r *Ring, f reference, m api.Four) {
		for _, a := range append(few(m), beside(m)[:10]...) {
			for _, e := range powers {
				if got := r.Exp(a, e); got != f.exp(a, e) {
					t.Fatalf("Exp(%x, %x) modulo %x = %x", a, e, m, got)
				}
			}
		}
	})
}

func TestInvIsThePowerOfTwoBelowTheModulus(t *testing.T) {
	rings(t, func(r *Ring, f reference, m api.Four) {
		e := words4(new(big.Int).Sub(four(m), big.NewInt(2)))
		for _, a := range numbers(m) {
			if got := r.Inv(a); got != f.exp(a, e) {
				t.Fatalf("Inv(%x) modulo %x = %x", a, m, got)
			}
		}
	})
}

func TestInvOfAPrime(t *testing.T) {
	for _, m := range primes {
		r, f := must(t, m), referenceOf(m)
		if !f.m.ProbablyPrime(20) {
			t.Fatalf("%x is no prime", m)
		}
		one := r.In(api.Four{1})
		for _, a := range numbers(m) {
			want := one
			if r.Reduce(a) == nought {
				want = nought
			}
			if got := r.Times(r.Inv(a), a); got != want {
				t.Fatalf("%x times its Inv modulo %x = %x", a, m, got)
			}
		}
		if r.Inv(nought) != nought || r.Inv(m) != nought || r.Inv(one) != one {
			t.Errorf("Inv of nought, m and 1 modulo %x: %x, %x, %x", m, r.Inv(nought), r.Inv(m), r.Inv(one))
		}
	}
}

func TestInvOfExamples(t *testing.T) {
	for _, x := range []struct{ m, a, want uint64 }{
		{3, 0, 0}, {3, 1, 1}, {3, 2, 2}, {3, 3, 0}, {3, 5, 2}, {7, 3, 5}, {101, 7, 29}, {101, 108, 29},
		{9, 3, 0}, {9, 2, 2}, {15, 2, 2}, {15, 5, 5},
	} {
		r := must(t, api.Four{x.m})
		if got := r.Out(r.Inv(r.In(api.Four{x.a}))); got != (api.Four{x.want}) {
			t.Errorf("Inv of %d modulo %d = %x; want %d", x.a, x.m, got, x.want)
		}
	}
}

// P3.4

func TestSumsAndProductsGoAsTheyDo(t *testing.T) {
	rings(t, func(r *Ring, _ reference, m api.Four) {
		one := r.In(api.Four{1})
		pairs(few(m), func(a, b api.Four) {
			if r.Plus(a, b) != r.Plus(b, a) || r.Times(a, b) != r.Times(b, a) {
				t.Fatalf("%x and %x modulo %x aren't as the other way round", a, b, m)
			}
			if r.Plus(r.Minus(a, b), b) != r.Reduce(a) || r.Minus(r.Plus(a, b), b) != r.Reduce(a) {
				t.Fatalf("%x and %x modulo %x: what is added and taken away isn't as it was", a, b, m)
			}
			if r.Minus(a, b) != r.Minus(nought, r.Minus(b, a)) {
				t.Fatalf("%x and %x modulo %x: differences", a, b, m)
			}
			for _, c := range few(m) {
				if r.Plus(r.Plus(a, b), c) != r.Plus(a, r.Plus(b, c)) {
					t.Fatalf("%x, %x and %x modulo %x: sums", a, b, c, m)
				}
				if r.Times(r.Times(a, b), c) != r.Times(a, r.Times(b, c)) {
					t.Fatalf("%x, %x and %x modulo %x: products", a, b, c, m)
				}
				if r.Times(r.Plus(a, b), c) != r.Plus(r.Times(a, c), r.Times(b, c)) {
					t.Fatalf("%x, %x and %x modulo %x: a product of a sum", a, b, c, m)
				}
			}
		})
		for _, a := range numbers(m) {
			if r.Plus(a, nought) != r.Reduce(a) || r.Times(a, one) != r.Reduce(a) || r.Times(a, nought) != nought {
				t.Fatalf("%x modulo %x with 0 and 1", a, m)
			}
		}
	})
}

func TestPowersAddUp(t *testing.T) {
	powers := []api.Four{nought, {1}, {2}, {7}, {ones}, {0, 1}, {5, 6, 7, 8}, {ones, ones, ones, ones >> 1}}
	rings(t, func(r *Ring, _ reference, m api.Four) {
		for _, a := range few(m) {
			pairs(powers, func(e, f api.Four) {
				sum := words4(new(big.Int).Add(four(e), four(f)))
				if r.Times(r.Exp(a, e), r.Exp(a, f)) != r.Exp(a, sum) {
					t.Fatalf("%x to the %x and to the %x modulo %x", a, e, f, m)
				}
			})
		}
	})
}

func TestWhatIsAskedChangesNoRing(t *testing.T) {
	first, second := must(t, prime256), must(t, order256)
	before := *first
	for _, a := range few(prime256) {
		first.Wide(api.Eight{a[0], a[1], a[2], a[3], ones})
		first.Inv(first.Minus(first.Plus(first.In(a), first.Out(a)), first.Exp(first.Times(a, a), first.Reduce(a))))
		second.Inv(a)
	}
	if *first != before || first.Modulus() != prime256 || second.Modulus() != order256 {
		t.Error("a ring changed")
	}
}

func TestOfARingThatNewDidNotGiveAllIsZero(t *testing.T) {
	for _, r := range []*Ring{nil, {}, new(Ring)} {
		list := []api.Four{r.Modulus()}
		for _, a := range []api.Four{nought, {1}, {2}, {5, 6, 7, 8}, top} {
			wide := api.Eight{a[0], a[1], a[2], a[3], a[0], a[1], a[2], a[3]}
			list = append(list, r.Reduce(a), r.Wide(wide), r.In(a), r.Out(a), r.Inv(a))
			for _, b := range []api.Four{nought, {1}, {3}, top} {
				list = append(list, r.Plus(a, b), r.Minus(a, b), r.Times(a, b), r.Exp(a, b))
			}
		}
		for i, got := range list {
			if got != nought {
				t.Errorf("of %v, the call %d: %x", r, i, got)
			}
		}
	}
}

func BenchmarkTimes(b *testing.B) {
	r, _ := New(prime256)
	a := r.In(api.Four{5, 6, 7, 8})
	for b.Loop() {
		a = r.Times(a, a)
	}
}

func BenchmarkNew(b *testing.B) {
	for b.Loop() {
		New(prime256)
	}
}
