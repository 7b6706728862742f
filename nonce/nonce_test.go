package nonce

import (
	"bytes"
	"crypto/hmac"
	"crypto/sha256"
	"encoding/hex"
	"math/big"
	"math/rand/v2"
	"testing"

	"cleromancy/api"
	"cleromancy/limb"
)

// Orders: those of P-256, of Edwards25519 with its cofactor (an order is any number of 256 bits here), and the edges.
var (
	prime    = four("ffffffff00000000ffffffffffffffffbce6faada7179e84f3b9cac2fc632551")
	koblitz  = four("fffffffffffffffffffffffffffffffebaaedce6af48a03bbfd25e8cd0364141")
	eightL   = four("80000000000000000000000000000000a6f7cef517bce6b2c09318d2e7ae9f68")
	least    = four("8000000000000000000000000000000000000000000000000000000000000000")
	leastOdd = four("8000000000000000000000000000000000000000000000000000000000000001")
	greatest = four("ffffffffffffffffffffffffffffffffffffffffffffffffffffffffffffffff")
	orders   = []api.Four{prime, koblitz, eightL, least, leastOdd, greatest}
)

// rfcSecret is the secret of RFC 6979, A.2.5.
var rfcSecret = four("c9afa9d845ba75166b5c215767b1d6934e50c3db36e89b127b8a622b120f6721")

// four is the number of 64 digits.
func four(digits string) api.Four {
	n, ok := new(big.Int).SetString(digits, 16)
	if !ok || len(digits) != 64 {
		panic(digits)
	}
	return fourOf(n)
}

// fourOf is a number as four words; modulo 2^256.
func fourOf(n *big.Int) api.Four {
	var a api.Four
	mask := new(big.Int).SetUint64(1<<64 - 1)
	for i := range a {
		a[i] = new(big.Int).And(new(big.Int).Rsh(n, uint(64*i)), mask).Uint64()
	}
	return a
}

// bigOf is a number by other means than the program's.
func bigOf(a api.Four) *big.Int {
	n := new(big.Int)
	for i := len(a) - 1; i >= 0; i-- {
		n.Or(n.Lsh(n, 64), new(big.Int).SetUint64(a[i]))
	}
	return n
}

// beside is a number and d.
func beside(a api.Four, d int64) api.Four {
	return fourOf(new(big.Int).Add(bigOf(a), big.NewInt(d)))
}

// bytesOf is a number's 32 bytes, the highest first.
func bytesOf(a api.Four) []byte {
	return bigOf(a).FillBytes(make([]byte, 32))
}

// sum is SHA-256 of a text.
func sum(text string) []byte {
	s := sha256.Sum256([]byte(text))
	return s[:]
}

// strange is a number without a pattern; the same in every run, another for each seed.
func strange(seed uint64) api.Four {
	r := rand.New(rand.NewPCG(8, seed))
	return api.Four{r.Uint64(), r.Uint64(), r.Uint64(), r.Uint64()}
}

// strangeOrder is a strange number of just 256 bits.
func strangeOrder(seed uint64) api.Four {
	q := strange(seed)
	q[3] |= 1 << 63
	return q
}

// secretsOf are secrets of an order: the edges, and some.
func secretsOf(q api.Four) []api.Four {
	return []api.Four{{}, {1}, beside(q, -1), q, beside(q, 1), greatest, rfcSecret, strange(1)}
}

// reference is the chapter's words, spelt out with other means than the program's.
type reference struct {
	k, v []byte
	q    *big.Int
	told bool
}

func hmacOf(key []byte, parts ...[]byte) []byte {
	h := hmac.New(sha256.New, key)
	for _, part := range parts {
		h.Write(part)
	}
	return h.Sum(nil)
}

func referenceOf(q, x api.Four, h []byte) *reference {
	r := &reference{k: make([]byte, 32), v: bytes.Repeat([]byte{1}, 32), q: bigOf(q)}
	secret := new(big.Int).Mod(bigOf(x), r.q).FillBytes(make([]byte, 32))
	message := new(big.Int).Mod(new(big.Int).SetBytes(h), r.q).FillBytes(make([]byte, 32))
	r.k = hmacOf(r.k, r.v, []byte{0}, secret, message)
	r.v = hmacOf(r.k, r.v)
	r.k = hmacOf(r.k, r.v, []byte{1}, secret, message)
	r.v = hmacOf(r.k, r.v)
	return r
}

func (r *reference) goOn() {
	r.k = hmacOf(r.k, r.v, []byte{0})
	r.v = hmacOf(r.k, r.v)
}

// next is the next number, and how many were tried for it.
func (r *reference) next() (api.Four, int) {
	if r.told {
		r.goOn()
	}
	r.told = true
	for tried := 1; ; tried++ {
		r.v = hmacOf(r.k, r.v)
		n := new(big.Int).SetBytes(r.v)
		if n.Sign() > 0 && n.Cmp(r.q) < 0 {
			return fourOf(n), tried
		}
		r.goOn()
	}
}

// sourceOf is a source that has to be.
func sourceOf(t *testing.T, q, x api.Four, h []byte) *Source {
	t.Helper()
	s, e := New(q, x, h)
	if e != api.OK || s == nil {
		t.Fatalf("New(%x, %x, %x) = %v, %v", q, x, h, s, e)
	}
	return s
}

// nextOf is a source's next number, which has to be.
func nextOf(t *testing.T, s *Source) api.Four {
	t.Helper()
	n, ok := s.Next()
	if !ok {
		t.Fatalf("Next() = %x, %v", n, ok)
	}
	return n
}

// agree holds a source's first numbers against the reference's.
func agree(t *testing.T, q, x api.Four, h []byte, times int) {
	t.Helper()
	s, r := sourceOf(t, q, x, h), referenceOf(q, x, h)
	for i := range times {
		n, ok := s.Next()
		if want, _ := r.next(); !ok || n != want {
			t.Fatalf("of %x, %x and %x: the number %d is %x, %v; want %x", q, x, h, i, n, ok, want)
		}
	}
}

// P8.1

func TestNewOfOrders(t *testing.T) {
	h := sum("sample")
	for _, q := range append(orders, strangeOrder(2), beside(greatest, -1), beside(least, 2)) {
		sourceOf(t, q, rfcSecret, h)
	}
	for _, q := range []api.Four{
		{}, {1}, {5}, {0, 1}, {0, 0, 0, 1}, {0, 0, 0, 1 << 62}, beside(least, -1), {0, 0, 0, 1<<63 - 1},
		{1 << 63, 1 << 63, 1 << 63}, {1<<64 - 1, 1<<64 - 1, 1<<64 - 1, 0}, limb.Right(prime, 1),
	} {
		if s, e := New(q, rfcSecret, h); s != nil || e != api.ErrArg {
			t.Errorf("New of the order %x = %v, %v", q, s, e)
		}
	}
}

// An order of each number of bits: just 256 will do.
func TestNewOfOrdersOfEachBit(t *testing.T) {
	for bit := range 256 {
		top := new(big.Int).Lsh(big.NewInt(1), uint(bit))
		all := new(big.Int).Sub(new(big.Int).Lsh(top, 1), big.NewInt(1))
		for _, n := range []*big.Int{top, all} {
			s, e := New(fourOf(n), rfcSecret, sum("sample"))
			if whole := bit == 255; (e == api.OK) != whole || (s != nil) != whole || !whole && e != api.ErrArg {
				t.Errorf("New of the order %x = %v, %v", n, s, e)
			}
		}
	}
}

func TestNewOfSums(t *testing.T) {
	all := bytes.Repeat([]byte{7}, 100)
	for n := range len(all) + 1 {
		s, e := New(prime, rfcSecret, all[:n])
		if n == 32 && (s == nil || e != api.OK) || n != 32 && (s != nil || e != api.ErrArg) {
			t.Errorf("New with %d bytes = %v, %v", n, s, e)
		}
	}
	for _, h := range [][]byte{nil, {}, make([]byte, 0, 32), make([]byte, 31, 32), make([]byte, 33), make([]byte, 64), make([]byte, 32+256), make([]byte, 1<<16+32)} {
		if s, e := New(prime, rfcSecret, h); s != nil || e != api.ErrArg {
			t.Errorf("New with %d bytes = %v, %v", len(h), s, e)
		}
	}
}

func TestNewOfBothWrong(t *testing.T) {
	for _, q := range []api.Four{{}, {5}, beside(least, -1)} {
		for _, h := range [][]byte{nil, {}, make([]byte, 31), make([]byte, 33)} {
			if s, e := New(q, rfcSecret, h); s != nil || e != api.ErrArg {
				t.Errorf("New of the order %x with %d bytes = %v, %v", q, len(h), s, e)
			}
		}
	}
}

// No secret is refused, and no number of a sum.
func TestNewOfSecretsAndSums(t *testing.T) {
	for _, q := range orders {
		for _, x := range secretsOf(q) {
			for _, h := range secretsOf(q) {
				sourceOf(t, q, x, bytesOf(h))
			}
		}
	}
}

// P8.2

func TestExamples(t *testing.T) {
	last := beside(koblitz, -1)
	for _, x := range []struct {
		q, secret    api.Four
		text, number string
	}{
		{prime, rfcSecret, "sample", "a6e3c57dd01abe90086538398355dd4c3b17aa873382b0f24d6129493d8aad60"},
		{prime, rfcSecret, "test", "d16b6ae827f17175e040871a1c7ec3500192c4c92677336ec2537acaee0008e0"},
		{koblitz, api.Four{1}, "Satoshi Nakamoto", "8f8a276c19f4149656b280621e358cce24f5f52542772691ee69063b74f15d15"},
		{koblitz, api.Four{1}, "All those moments will be lost in time, like tears in rain. Time to die...", "38aa22d72376b4dbc472e06c3ba403ee0a394da63fc58d88686c611aba98d6b3"},
		{koblitz, last, "Satoshi Nakamoto", "33a19b60e25fb6f4435af53a3d42d493644827367e6453928554f43e49aa6f90"},
	} {
		if n := nextOf(t, sourceOf(t, x.q, x.secret, sum(x.text))); n != four(x.number) {
			t.Errorf("of %x and %q: %x; want %s", x.secret, x.text, bytesOf(n), x.number)
		}
	}
}

// The chapter's words: how a source begins, and what a number is, of all edges.
func TestNextAsTheWordsSay(t *testing.T) {
	for _, q := range append(orders, strangeOrder(3)) {
		for _, x := range secretsOf(q) {
			for _, h := range secretsOf(q) {
				agree(t, q, x, bytesOf(h), 3)
			}
		}
	}
}

func TestNextOfAny(t *testing.T) {
	for seed := range uint64(300) {
		q := strangeOrder(4*seed + 100)
		agree(t, q, strange(4*seed+101), bytesOf(strange(4*seed+102)), 1+int(seed%5))
	}
}

// Many numbers of one source: K and V go on behind each.
func TestNextGoesOn(t *testing.T) {
	for _, q := range orders {
		agree(t, q, rfcSecret, sum("many"), 500)
		s, seen := sourceOf(t, q, rfcSecret, sum("many")), map[api.Four]bool{}
		for i := range 500 {
			n := nextOf(t, s)
			if seen[n] {
				t.Fatalf("of %x: the number %d, %x, was told before", q, i, n)
			}
			seen[n] = true
		}
	}
}

// Of orders just above 2^255 about half of the tries are left, also many in a row.
func TestTriesAreLeft(t *testing.T) {
	for _, q := range []api.Four{least, leastOdd, eightL} {
		h := sum("tries")
		s, r := sourceOf(t, q, rfcSecret, h), referenceOf(q, rfcSecret, h)
		all, longest, times := 0, 0, 1000
		for i := range times {
			want, tried := r.next()
			if n := nextOf(t, s); n != want {
				t.Fatalf("of %x: the number %d, of %d tries, is %x; want %x", q, i, tried, n, want)
			}
			all += tried
			longest = max(longest, tried)
		}
		if all < times*17/10 || all > times*23/10 || longest < 6 {
			t.Errorf("of %x: %d tries for %d numbers, %d at most: the test leaves too few", q, all, times, longest)
		}
	}
}

// tries are what a source would try, one behind the other, each with what K and V are ahead of it.
type tries struct {
	ahead   []pair
	numbers []api.Four
}

func triesOf(q, x api.Four, h []byte, n int) tries {
	var all tries
	r := referenceOf(q, x, h)
	for range n {
		all.ahead = append(all.ahead, pair{k: r.k, v: r.v})
		r.v = hmacOf(r.k, r.v)
		all.numbers = append(all.numbers, fourOf(new(big.Int).SetBytes(r.v)))
		r.goOn()
	}
	return all
}

// lowest is the place of a number that is less than the 1000 ahead of it.
func (a tries) lowest(t *testing.T) int {
	t.Helper()
	for place := 1000; place < len(a.numbers); place++ {
		low := true
		for _, n := range a.numbers[place-1000 : place] {
			low = low && limb.Cmp(a.numbers[place], n) < 0
		}
		if low {
			return place
		}
	}
	t.Fatal("no number is less than the 1000 ahead of it")
	return 0
}

// No order of 256 bits can be found that leaves 1000 tries; a lesser one, which New would not take, does.
func TestThousandTries(t *testing.T) {
	all := triesOf(prime, rfcSecret, sum("thousand"), 10000)
	place := all.lowest(t)
	low := all.numbers[place]
	for _, x := range []struct {
		tried int // how many are tried till the low one, which comes with the last of them
		order api.Four
		ok    bool
	}{
		{1, beside(low, 1), true}, {2, beside(low, 1), true}, {999, beside(low, 1), true}, {1000, beside(low, 1), true},
		{1001, beside(low, 1), false}, {1000, low, false}, {1, low, false}, {1000, api.Four{2}, false}, {1000, api.Four{1}, false},
	} {
		s := &Source{pair: all.ahead[place-x.tried+1], order: x.order}
		want := api.Four{}
		if x.ok {
			want = low
		}
		if n, ok := s.Next(); n != want || ok != x.ok {
			t.Errorf("of %d tries of the order %x: %x, %v; want %x, %v", x.tried, x.order, n, ok, want, x.ok)
		}
		if x.ok {
			continue
		}
		// Nothing has changed: it tells the same again, and of an order that leaves fewer it tells what it would have told.
		if n, ok := s.Next(); n != (api.Four{}) || ok {
			t.Errorf("of %d tries of the order %x, asked again: %x, %v", x.tried, x.order, n, ok)
		}
		s.order = greatest
		if n, ok := s.Next(); n != all.numbers[place-x.tried+1] || !ok {
			t.Errorf("behind %d tries of the order %x: %x, %v; want %x", x.tried, x.order, n, ok, all.numbers[place-x.tried+1])
		}
	}
}

// How many were tried in one call doesn't count in the next one.
func TestTriesAreOfOneCall(t *testing.T) {
	s, r := sourceOf(t, least, api.Four{3}, sum("calls")), referenceOf(least, api.Four{3}, sum("calls"))
	all := 0
	for i := range 1500 {
		want, tried := r.next()
		all += tried
		if n, ok := s.Next(); n != want || !ok {
			t.Fatalf("the number %d, behind %d tries: %x, %v; want %x", i, all, n, ok, want)
		}
	}
	if all < 2000 {
		t.Errorf("%d tries: the test makes too few", all)
	}
}

func TestNoSource(t *testing.T) {
	var none *Source
	for _, s := range []*Source{none, {}, new(Source)} {
		for i := range 3 {
			if n, ok := s.Next(); n != (api.Four{}) || ok {
				t.Errorf("Next() of no source, asked %d times before, = %x, %v", i, n, ok)
			}
		}
	}
	var plain Source
	if n, ok := plain.Next(); n != (api.Four{}) || ok {
		t.Errorf("Next() of Source{} = %x, %v", n, ok)
	}
	if refused, _ := New(api.Four{5}, rfcSecret, sum("sample")); refused != nil {
		t.Error("a source of an order that may not be")
	}
}

// P8.3

func TestSameAgain(t *testing.T) {
	for _, q := range orders {
		h := sum("again")
		first, second := sourceOf(t, q, rfcSecret, h), sourceOf(t, q, rfcSecret, h)
		var told []api.Four
		for range 40 {
			told = append(told, nextOf(t, first))
		}
		// The other one is asked for the first time now, and the first one goes on between.
		for i, want := range told {
			if n := nextOf(t, second); n != want {
				t.Fatalf("of %x: the second source's number %d is %x; want %x", q, i, n, want)
			}
			told = append(told, nextOf(t, first))
		}
		for i, want := range told[40:] {
			if n := nextOf(t, second); n != want {
				t.Fatalf("of %x: the second source's number %d is %x; want %x", q, 40+i, n, want)
			}
		}
	}
}

// Secrets, and sums, that are the same modulo the order tell the same; others don't.
func TestModuloTheOrder(t *testing.T) {
	for _, q := range orders {
		most, _ := limb.Sub(greatest, q)
		for _, low := range []api.Four{{}, {1}, {77}, most} {
			high := new(big.Int).Add(bigOf(low), bigOf(q))
			if high.BitLen() > 256 {
				continue
			}
			above := fourOf(high)
			want := nextOf(t, sourceOf(t, q, low, bytesOf(low)))
			for _, s := range []*Source{sourceOf(t, q, above, bytesOf(low)), sourceOf(t, q, low, bytesOf(above)), sourceOf(t, q, above, bytesOf(above))} {
				if n := nextOf(t, s); n != want {
					t.Errorf("of %x: what %x and %x tell is two: %x and %x", q, low, above, want, n)
				}
			}
		}
	}
}

func TestOthersTellOthers(t *testing.T) {
	seen := map[api.Four]int{}
	for i, s := range []*Source{
		sourceOf(t, prime, api.Four{1}, bytesOf(api.Four{2})), sourceOf(t, prime, api.Four{2}, bytesOf(api.Four{1})),
		sourceOf(t, prime, api.Four{1}, bytesOf(api.Four{1})), sourceOf(t, prime, api.Four{2}, bytesOf(api.Four{2})),
		sourceOf(t, prime, api.Four{}, bytesOf(api.Four{1})), sourceOf(t, prime, api.Four{1}, bytesOf(api.Four{})),
		sourceOf(t, prime, beside(prime, -1), bytesOf(api.Four{1})), sourceOf(t, prime, api.Four{0, 0, 0, 1 << 63}, bytesOf(api.Four{1})),
		sourceOf(t, prime, api.Four{1}, bytesOf(beside(prime, -1))), sourceOf(t, prime, api.Four{1}, bytesOf(api.Four{0, 0, 0, 1 << 63})),
	} {
		n := nextOf(t, s)
		if other, ok := seen[n]; ok {
			t.Errorf("the sources %d and %d tell one number: %x", other, i, n)
		}
		seen[n] = i
	}
}

// Of what is reduced the order counts: two orders, of one secret above one of them, tell apart.
func TestOrdersTellOthers(t *testing.T) {
	x := beside(least, 5)
	one, two := sourceOf(t, least, x, sum("a")), sourceOf(t, greatest, x, sum("a"))
	if n := nextOf(t, one); n == nextOf(t, two) {
		t.Errorf("two orders tell one number: %x", n)
	}
}

// Numbers are from 1 to q - 1: of what is tried, and of what is told.
func TestNumbersFit(t *testing.T) {
	for _, q := range orders {
		s := sourceOf(t, q, rfcSecret, sum("fit"))
		for _, n := range []api.Four{{1}, {2}, {0, 0, 0, 1}, beside(q, -1), beside(q, -2), limb.Right(q, 1)} {
			if !s.fits(n) {
				t.Errorf("%x doesn't fit the order %x", n, q)
			}
		}
		for _, n := range []api.Four{{}, q, greatest} {
			if s.fits(n) {
				t.Errorf("%x fits the order %x", n, q)
			}
		}
		for range 300 {
			n := bigOf(nextOf(t, s))
			if n.Sign() <= 0 || n.Cmp(bigOf(q)) >= 0 {
				t.Errorf("of %x: %x is told", q, n)
			}
		}
	}
}

// Rule 4: what is handed in.

func TestSumIsNotChanged(t *testing.T) {
	for _, q := range orders {
		for _, number := range secretsOf(q) {
			memory := append(bytesOf(number), bytes.Repeat([]byte{9}, 100)...)
			before := bytes.Clone(memory)
			s := sourceOf(t, q, rfcSecret, memory[:32])
			for range 5 {
				nextOf(t, s)
			}
			if !bytes.Equal(memory, before) {
				t.Errorf("of %x: the sum %x, or what is behind it, was changed", q, number)
			}
		}
	}
}

// What is written to the sum afterwards makes no difference.
func TestSourceKeepsNothingOfTheSum(t *testing.T) {
	for _, q := range orders {
		h := sum("kept")
		s, r := sourceOf(t, q, rfcSecret, h), referenceOf(q, rfcSecret, sum("kept"))
		for i := range 20 {
			for place := range h {
				h[place] ^= byte(i + 1)
			}
			if want, _ := r.next(); nextOf(t, s) != want {
				t.Fatalf("of %x: the number %d hangs on what the sum's list has now", q, i)
			}
		}
	}
}

// A copy of a source, and the source, don't disturb each other.
func TestCopiedSource(t *testing.T) {
	s := sourceOf(t, leastOdd, rfcSecret, sum("copy"))
	nextOf(t, s)
	other := *s
	var told []api.Four
	for range 10 {
		told = append(told, nextOf(t, s))
	}
	for i, want := range told {
		if n := nextOf(t, &other); n != want {
			t.Errorf("the copy's number %d is %x; want %x", i, n, want)
		}
	}
}

// The reference itself: RFC 6979's number, in its own digits.
func TestReference(t *testing.T) {
	n, _ := referenceOf(prime, rfcSecret, sum("sample")).next()
	if d := hex.EncodeToString(bytesOf(n)); d != "a6e3c57dd01abe90086538398355dd4c3b17aa873382b0f24d6129493d8aad60" {
		t.Error(d)
	}
}
