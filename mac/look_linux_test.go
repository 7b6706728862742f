package mac

import (
	"os"
	"runtime/debug"
	"syscall"
	"testing"
)

// half is memory of two pages, the second of which nobody may read.
func half(t *testing.T) (memory []byte, border int) {
	t.Helper()
	border = os.Getpagesize()
	memory, err := syscall.Mmap(-1, 0, 2*border, syscall.PROT_READ|syscall.PROT_WRITE, syscall.MAP_ANON|syscall.MAP_PRIVATE)
	if err != nil {
		t.Skip("no pages here:", err)
	}
	t.Cleanup(func() {
		if err := syscall.Munmap(memory); err != nil {
			t.Error(err)
		}
	})
	if err := syscall.Mprotect(memory[border:], syscall.PROT_NONE); err != nil {
		t.Skip("no guarded pages here:", err)
	}
	return memory, border
}

// answer is what Same told last: a call whose answer nobody takes need not read anything.
var answer bool

// looks tells whether Same reads what nobody may.
func looks(a, b []byte) (read bool) {
	defer debug.SetPanicOnFault(debug.SetPanicOnFault(true))
	defer func() { read = recover() != nil }()
	answer = Same(a, b)
	return false
}

// P7.2: all bytes are looked at, wherever they differ. The last byte is one that nobody may read: who comes to it is found out.
func TestSameLooksAtAllBytes(t *testing.T) {
	const n = 33
	memory, border := half(t)
	guarded := memory[border-n+1 : border+1]
	if looks(guarded[:n-1], make([]byte, n-1)) {
		t.Fatal("what is ahead of the guarded byte can't be read")
	}
	for place := range n - 1 {
		other := make([]byte, n)
		other[place] = 1
		if !looks(guarded, other) || !looks(other, guarded) {
			t.Errorf("of %d bytes that differ at %d, the last one isn't looked at", n, place)
		}
	}
	if longer := make([]byte, n+1); !looks(guarded, longer) || !looks(longer, guarded) {
		t.Errorf("of %d bytes, and of one more, the last one of both isn't looked at", n)
	}
}
