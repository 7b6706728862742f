package expand

import (
	"bytes"
	"crypto/sha512"
	"encoding/hex"
	"math"
	"math/rand/v2"
	"slices"
	"strings"
	"testing"

	"cleromancy/api"
)

// asked are how many bytes are asked for: the edges beside a block's end, beside the second byte of how many, and the last ones.
var asked = []int{
	0, 1, 2, 31, 32, 48, 63, 64, 65, 127, 128, 129, 191, 192, 193, 255, 256, 257, 511, 512, 513, 1000,
	64 * 100, 64*254 - 1, 64 * 254, 64*254 + 1, 64*255 - 64, 64*255 - 63, 64*255 - 2, 64*255 - 1, 64 * 255,
}

// refused are how many bytes may not be asked for; those of two, four or eight bytes that would fit if they were cut among them.
var refused = []int{-1, -2, -64, -255 * 64, math.MinInt, math.MinInt + 1, math.MinInt32, 64*255 + 1, 64*255 + 64, 64 * 256, 1<<16 - 1, 1 << 16, 1<<16 + 64, math.MaxInt32, math.MaxInt - 63, math.MaxInt - 1, math.MaxInt}

// strange are bytes without a pattern; the same in every run, others for each seed.
func strange(seed uint64, n int) []byte {
	r := rand.New(rand.NewPCG(9, seed))
	b := make([]byte, n)
	for i := range b {
		b[i] = byte(r.Uint32())
	}
	return b
}

// tags are of each length that the chapter names, and some between.
func tags() [][]byte {
	return [][]byte{nil, {}, {0}, {1}, {0xff}, []byte("tag"), strange(1, 63), strange(2, 64), strange(3, 127), strange(4, 128), strange(5, 254), strange(6, 255), make([]byte, 255)}
}

// messages are of none, one, and about as many bytes as SHA-512 takes at once, and of many times as many.
func messages() [][]byte {
	all := [][]byte{nil, {}, {0}, {1}, {0xff}, []byte("abc"), make([]byte, 128)}
	for i, n := range []int{2, 63, 64, 107, 108, 111, 112, 113, 127, 128, 129, 255, 256, 257, 128 * 40, 100001} {
		all = append(all, strange(uint64(20+i), n))
	}
	return all
}

// sumOf is SHA-512 of texts, one behind the other, by other means than the program's.
func sumOf(texts ...string) string {
	s := sha512.Sum512([]byte(strings.Join(texts, "")))
	return string(s[:])
}

// byteOf is a text of one byte.
func byteOf(n int) string { return string([]byte{byte(n)}) }

// either is two texts of one length, byte by byte by exclusive or.
func either(a, b string) string {
	var out strings.Builder
	for i := range len(a) {
		out.WriteByte(a[i] ^ b[i])
	}
	return out.String()
}

// want is the chapter's words, spelt out.
func want(message, tag []byte, n int) string {
	end := string(tag) + byteOf(len(tag))
	begin := sumOf(strings.Repeat("\x00", 128), string(message), byteOf(n/256), byteOf(n%256), "\x00", end)
	block := sumOf(begin, "\x01", end)
	all := block
	for i := 2; len(all) < n; i++ {
		block = sumOf(either(begin, block), byteOf(i), end)
		all += block
	}
	return all[:n]
}

// expanded is what comes of arguments that may be.
func expanded(t *testing.T, message, tag []byte, n int) []byte {
	t.Helper()
	b, e := Expand(message, tag, n)
	if e != api.OK || len(b) != n {
		t.Fatalf("Expand of %d bytes, a tag of %d, to %d: %d bytes, %d", len(message), len(tag), n, len(b), e)
	}
	return b
}

// check holds what comes against the chapter's words.
func check(t *testing.T, message, tag []byte, n int) {
	t.Helper()
	if b := expanded(t, message, tag, n); string(b) != want(message, tag, n) {
		t.Errorf("Expand of %d bytes, a tag of %d, to %d: %x..; want %.8x..", len(message), len(tag), n, b[:min(n, 8)], want(message, tag, n))
	}
}

// P9.1: what comes

// RFC 9380, K.3.
func TestPublishedNumbers(t *testing.T) {
	for _, x := range []struct{ message, digits string }{
		{"", "6b9a7312411d92f921c6f68ca0b6380730a1a4d982c507211a90964c394179ba"},
		{"abc", "0da749f12fbe5483eb066a5f595055679b976e93abe9be6f0f6318bce7aca8dc"},
		{"abcdef0123456789", "087e45a86e2939ee8b91100af1583c4938e0f5fc6c9db4b107b83346bc967f58"},
		{"q128_" + strings.Repeat("q", 128), "7336234ee9983902440f6bc35b348352013becd88938d2afec44311caf8356b3"},
		{"a512_" + strings.Repeat("a", 512), "57b5f7e766d5be68a6bfe1768e3c2b7f1228b3e4b3134956dd73a59b954c66f4"},
		{"", "41b037d1734a5f8df225dd8c7de38f851efdb45c372887be655212d07251b921b052b62eaed99b46f72f2ef4cc96bfaf254ebbbec091e1a3b9e4fb5e5b619d2e0c5414800a1d882b62bb5cd1778f098b8eb6cb399d5d9d18f5d5842cf5d13d7eb00a7cff859b605da678b318bd0e65ebff70bec88c753b159a805d2c89c55961"},
		{"abc", "7f1dddd13c08b543f2e2037b14cefb255b44c83cc397c1786d975653e36a6b11bdd7732d8b38adb4a0edc26a0cef4bb45217135456e58fbca1703cd6032cb1347ee720b87972d63fbf232587043ed2901bce7f22610c0419751c065922b488431851041310ad659e4b23520e1772ab29dcdeb2002222a363f0c2b1c972b3efe1"},
		{"abcdef0123456789", "3f721f208e6199fe903545abc26c837ce59ac6fa45733f1baaf0222f8b7acb0424814fcb5eecf6c1d38f06e9d0a6ccfbf85ae612ab8735dfdf9ce84c372a77c8f9e1c1e952c3a61b7567dd0693016af51d2745822663d0c2367e3f4f0bed827feecc2aaf98c949b5ed0d35c3f1023d64ad1407924288d366ea159f46287e61ac"},
		{"q128_" + strings.Repeat("q", 128), "b799b045a58c8d2b4334cf54b78260b45eec544f9f2fb5bd12fb603eaee70db7317bf807c406e26373922b7b8920fa29142703dd52bdf280084fb7ef69da78afdf80b3586395b433dc66cde048a258e476a561e9deba7060af40adf30c64249ca7ddea79806ee5beb9a1422949471d267b21bc88e688e4014087a0b592b695ed"},
		{"a512_" + strings.Repeat("a", 512), "05b0bfef265dcee87654372777b7c44177e2ae4c13a27f103340d9cd11c86cb2426ffcad5bd964080c2aee97f03be1ca18e30a1f14e27bc11ebbd650f305269cc9fb1db08bf90bfc79b42a952b46daf810359e7bc36452684784a64952c343c52e5124cd1f71d474d5197fefc571a92929c9084ffe1112cf5eea5192ebff330b"},
	} {
		tag := []byte("QUUX-V01-CS02-with-expander-SHA512-256")
		n := len(x.digits) / 2
		if d := hex.EncodeToString(expanded(t, []byte(x.message), tag, n)); d != x.digits {
			t.Errorf("%.20q to %d bytes: %s; want %s", x.message, n, d, x.digits)
		}
		if d := hex.EncodeToString([]byte(want([]byte(x.message), tag, n))); d != x.digits {
			t.Errorf("%.20q to %d bytes: the chapter's words come to %s; want %s", x.message, n, d, x.digits)
		}
	}
}

func TestExpandToNothing(t *testing.T) {
	for _, message := range messages() {
		for _, tag := range tags() {
			if b, e := Expand(message, tag, 0); len(b) != 0 || e != api.OK {
				t.Errorf("Expand of %d bytes, a tag of %d, to none: %x, %d", len(message), len(tag), b, e)
			}
		}
	}
}

func TestEachMessage(t *testing.T) {
	for _, message := range messages() {
		for _, n := range []int{1, 32, 64, 65, 129, 300} {
			check(t, message, nil, n)
			check(t, message, []byte("tag"), n)
		}
	}
}

func TestEachTag(t *testing.T) {
	for _, tag := range tags() {
		for _, n := range asked {
			check(t, nil, tag, n)
			check(t, []byte("abc"), tag, n)
		}
	}
}

func TestTagOfEachLength(t *testing.T) {
	all := strange(7, 255)
	for n := range len(all) + 1 {
		check(t, []byte("abc"), all[:n], 130)
	}
}

func TestMessageOfEachLength(t *testing.T) {
	all := strange(8, 400)
	for n := range len(all) + 1 {
		check(t, all[:n], []byte("tag"), 130)
	}
}

func TestEachByte(t *testing.T) {
	for c := range 256 {
		b := bytes.Repeat([]byte{byte(c)}, 3)
		check(t, b, nil, 65)
		check(t, nil, b, 65)
	}
}

// Nil is as no byte.
func TestNilAndEmpty(t *testing.T) {
	for _, n := range asked {
		first := expanded(t, nil, nil, n)
		for _, b := range [][]byte{expanded(t, []byte{}, nil, n), expanded(t, nil, []byte{}, n), expanded(t, []byte{}, []byte{}, n)} {
			if !bytes.Equal(first, b) {
				t.Errorf("to %d bytes: %x of nil, %x of no byte", n, first, b)
			}
		}
	}
}

// Where the message ends and the tag begins counts.
func TestEndsTellApart(t *testing.T) {
	seen := map[string]int{}
	for i, x := range []struct{ message, tag string }{
		{"abc", ""}, {"ab", "c"}, {"a", "bc"}, {"", "abc"}, {"", "cba"}, {"abc", "abc"}, {"abc", "\x00"}, {"abc\x00", ""}, {"abc\x00\x00", ""}, {"", ""}, {"\x00", ""}, {"", "\x00"}, {"", "\x00\x00"}, {"", "\x01"},
	} {
		s := string(expanded(t, []byte(x.message), []byte(x.tag), 64))
		if other, ok := seen[s]; ok {
			t.Errorf("the pairs %d and %d come to one", other, i)
		}
		seen[s] = i
	}
}

// P9.1: ErrArg

// isRefused tells whether the answer is ErrArg, and nothing beside it.
func isRefused(message, tag []byte, n int) bool {
	b, e := Expand(message, tag, n)
	return e == api.ErrArg && b == nil
}

func TestBytesThatMayNotBeAskedFor(t *testing.T) {
	for _, n := range refused {
		for _, tag := range [][]byte{nil, {}, []byte("tag"), make([]byte, 255), make([]byte, 256), make([]byte, 70000)} {
			for _, message := range [][]byte{nil, []byte("abc"), strange(9, 1000)} {
				if !isRefused(message, tag, n) {
					b, e := Expand(message, tag, n)
					t.Errorf("Expand of %d bytes, a tag of %d, to %d: %d bytes, %d", len(message), len(tag), n, len(b), e)
				}
			}
		}
	}
}

func TestTagsThatAreTooLong(t *testing.T) {
	// Of 512 and of 65536 bytes one byte for how many would be as that of none.
	for _, length := range []int{256, 257, 300, 511, 512, 513, 65535, 65536, 65537, 1 << 20} {
		for _, n := range slices.Concat(asked, refused) {
			if !isRefused([]byte("abc"), make([]byte, length), n) {
				b, e := Expand([]byte("abc"), make([]byte, length), n)
				t.Errorf("Expand with a tag of %d, to %d: %d bytes, %d", length, n, len(b), e)
			}
		}
	}
}

// How much room a tag has behind it isn't how long it is.
func TestTagWithRoomIsNotTooLong(t *testing.T) {
	all := strange(10, 4000)
	for _, n := range []int{0, 1, 254, 255} {
		check(t, []byte("abc"), all[:n], 100)
	}
	if !isRefused([]byte("abc"), all[:256], 100) {
		t.Error("a tag of 256 bytes, with room behind, isn't refused")
	}
}

// The last ones that may be, and the first that may not, side by side.
func TestLastThatMayBe(t *testing.T) {
	check(t, []byte("abc"), make([]byte, 255), 64*255)
	for _, x := range []struct{ tag, n int }{{255, 64*255 + 1}, {256, 64 * 255}, {256, 64*255 + 1}, {0, -1}, {256, -1}, {256, 0}} {
		if !isRefused([]byte("abc"), make([]byte, x.tag), x.n) {
			t.Errorf("a tag of %d bytes, to %d, isn't refused", x.tag, x.n)
		}
	}
}

// P9.2

// What comes of a number of bytes, of each of the first ones and of some of all others.
func TestAsManyAsAreAskedFor(t *testing.T) {
	for n := 0; n <= 64*255; n++ {
		check(t, []byte("abc"), []byte("tag"), n)
		if n > 700 {
			n += 36 // which shares no divisor with 64 but 1, and goes through all places of a block
		}
	}
	for _, n := range asked {
		check(t, []byte("abc"), []byte("tag"), n)
	}
}

// What comes of one number isn't what another one begins with.
func TestNumberCounts(t *testing.T) {
	// Beside the edges those that have one of their two bytes in common, or have them the other way round.
	numbers := append(slices.Clone(asked), 16, 16+256, 16+512, 16+16*256, 2+16*256, 0x1020, 0x2010, 0x1001, 62*256, 63*256+16)
	slices.Sort(numbers)
	numbers = slices.Compact(numbers)
	for _, tag := range [][]byte{nil, []byte("tag"), make([]byte, 255)} {
		seen := map[string]int{}
		for _, n := range numbers {
			if n < 16 {
				continue
			}
			begin := string(expanded(t, []byte("abc"), tag, n)[:16])
			if other, ok := seen[begin]; ok {
				t.Errorf("%d and %d bytes begin alike", other, n)
			}
			seen[begin] = n
		}
	}
}

// Each block is of the begin and the block ahead of it, up to the last that may be.
func TestBlocksHangOnThoseAhead(t *testing.T) {
	message, tag := strange(11, 200), strange(12, 100)
	end := string(tag) + byteOf(len(tag))
	for _, n := range []int{64, 65, 128, 129, 64*16 + 1, 64*255 - 1, 64 * 255} {
		all := string(expanded(t, message, tag, n))
		begin := sumOf(string(make([]byte, 128)), string(message), byteOf(n>>8), byteOf(n), "\x00", end)
		mixed := begin
		for i := 1; len(all) > 0; i++ {
			size := min(64, len(all))
			if all[:size] != sumOf(mixed, byteOf(i), end)[:size] {
				t.Fatalf("to %d bytes: the block %d isn't of the one ahead", n, i)
			}
			if size == 64 {
				mixed = either(begin, all[:64])
			}
			all = all[size:]
		}
	}
}

// Blocks are left by who goes through them, at any of them, and can be gone through again.
func TestBlocksAreLeft(t *testing.T) {
	begin, end := strange(13, 64), []byte("tag\x03")
	told := blocks(begin, end, 255)
	for _, left := range []int{1, 2, 3, 254, 255} {
		var all []byte
		for block := range told {
			if all = append(all, block...); len(all) == 64*left {
				break
			}
		}
		mixed := string(begin)
		for i := range left {
			block := sumOf(mixed, byteOf(i+1), string(end))
			if string(all[64*i:64*i+64]) != block {
				t.Fatalf("left at the block %d: the block %d is another one", left, i+1)
			}
			mixed = either(string(begin), block)
		}
	}
	for range blocks(begin, end, 0) {
		t.Error("of no block one is told")
	}
}

// Rules 4 and 5: what is handed in, what comes, and what both share.

func TestSameAgain(t *testing.T) {
	for _, n := range asked {
		first, second := expanded(t, strange(14, 300), strange(15, 99), n), expanded(t, strange(14, 300), strange(15, 99), n)
		if !bytes.Equal(first, second) {
			t.Errorf("to %d bytes: two answers", n)
		}
		clear(first[:cap(first)])
		if string(second) != want(strange(14, 300), strange(15, 99), n) {
			t.Errorf("to %d bytes: two answers share memory", n)
		}
		check(t, strange(14, 300), strange(15, 99), n)
	}
}

// What is handed in, and what stands behind it in the same memory, is neither changed nor read further than it goes.
func TestNothingHandedInIsChanged(t *testing.T) {
	for _, length := range []int{0, 1, 64, 128, 254, 255} {
		for _, n := range asked {
			message, tag := strange(16, length+300), strange(17, length+300)
			b := expanded(t, message[:length], tag[:length], n)
			if string(b) != want(message[:length], tag[:length], n) {
				t.Errorf("of %d bytes with room behind, to %d: %x..", length, n, b[:min(n, 8)])
			}
			clear(b[:cap(b)])
			if !bytes.Equal(message, strange(16, length+300)) || !bytes.Equal(tag, strange(17, length+300)) {
				t.Errorf("of %d bytes, to %d: the message, the tag, or what is behind them, was changed", length, n)
			}
			if !isRefused(message, tag[:length], -1) || !isRefused(message, tag, n) {
				t.Errorf("of %d bytes, to -1, or of a tag of %d, to %d: not refused", length, len(tag), n)
			}
			if !bytes.Equal(message, strange(16, length+300)) || !bytes.Equal(tag, strange(17, length+300)) {
				t.Errorf("of %d bytes, to %d: what was refused was changed", length, n)
			}
		}
	}
}

// What was answered stays as it is, whatever is written to the message and the tag afterwards.
func TestAnswerStays(t *testing.T) {
	for _, n := range asked {
		message, tag := strange(18, 64), strange(19, 64)
		b := expanded(t, message, tag, n)
		clear(message)
		clear(tag)
		expanded(t, message, tag, n)
		if string(b) != want(strange(18, 64), strange(19, 64), n) {
			t.Errorf("to %d bytes: the answer hangs on what is written afterwards", n)
		}
	}
}

// A message and a tag may be one memory.
func TestMessageAndTagInOneMemory(t *testing.T) {
	all := strange(20, 200)
	for _, x := range [][4]int{{0, 100, 0, 100}, {0, 100, 50, 150}, {50, 150, 0, 100}, {0, 100, 100, 200}, {100, 200, 0, 100}, {0, 200, 0, 1}} {
		b := expanded(t, all[x[0]:x[1]], all[x[2]:x[3]], 300)
		if string(b) != want(strange(20, 200)[x[0]:x[1]], strange(20, 200)[x[2]:x[3]], 300) || !bytes.Equal(all, strange(20, 200)) {
			t.Errorf("of the places %v of one memory: %x..", x, b[:8])
		}
	}
}
