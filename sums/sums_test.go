package sums_test

import (
	"bytes"
	"hash/adler32"
	"hash/crc32"
	"slices"
	"strconv"
	"testing"

	"muster/sums"
)

// pattern: n bytes that repeat late and look like no run, the same at each call.
func pattern(n int, seed uint32) []byte {
	b := make([]byte, n)
	for i := range b {
		seed = seed*1664525 + 1013904223
		b[i] = byte(seed >> 24)
	}
	return b
}

func filled(n int, v byte) []byte {
	return bytes.Repeat([]byte{v}, n)
}

// lists: none, all single bytes, runs of one value, patterns of many lengths, and one long enough to wrap sums that are not taken modulo.
func lists() [][]byte {
	ls := [][]byte{nil, {}, []byte("123456789"), []byte("Wikipedia"), filled(4, 0), filled(4, 0xff), filled(70000, 0xff), filled(70000, 0), filled(1<<20, 0xff)}
	for v := range 256 {
		ls = append(ls, []byte{byte(v)})
	}
	for n := range 70 {
		ls = append(ls, pattern(n, uint32(n)), filled(n, 0xff))
	}
	return append(ls, pattern(65521, 1), pattern(100000, 2))
}

// startSums: sums that may stand ahead of a list, the ends of the range and each single bit among them.
func startSums() []uint32 {
	ss := []uint32{0, 0xffffffff, 0xCBF43926, 0x12345678, 0xEDB88320, ^uint32(0xEDB88320), 0x7fffffff}
	for i := range 32 {
		ss = append(ss, 1<<i, ^uint32(1<<i))
	}
	return ss
}

// remainder is the chapter's rule, kept as a list of 32 bits, the lowest first, to hold the program's shifts against.
func remainder(sum uint32, b []byte) uint32 {
	register := make([]bool, 32)
	for i := range register {
		register[i] = sum>>i&1 == 0
	}
	for _, v := range b {
		for i := range 8 {
			unlike := register[0] != (v>>i&1 == 1)
			register = append(register[1:], false)
			for k := range register {
				register[k] = register[k] != (unlike && uint32(0xEDB88320)>>k&1 == 1)
			}
		}
	}
	var out uint32
	for i, set := range register {
		if !set {
			out |= 1 << i
		}
	}
	return out
}

// P2.1, examples 1: none, the digits at once, and the digits in two pieces.
func TestCrcExamples(t *testing.T) {
	digits := []byte("123456789")
	for _, none := range [][]byte{nil, {}} {
		if got := sums.Crc(none); got != 0 {
			t.Errorf("Crc(none) = %08X", got)
		}
	}
	if got := sums.Crc(digits); got != 0xCBF43926 {
		t.Errorf("Crc(digits) = %08X", got)
	}
	for cut := range len(digits) + 1 {
		if got := sums.More(sums.Crc(digits[:cut]), digits[cut:]); got != 0xCBF43926 {
			t.Errorf("digits cut at %d: %08X", cut, got)
		}
	}
}

// P2.1: single bytes whose remainders are known from outside.
func TestCrcOfSingleBytes(t *testing.T) {
	for _, c := range []struct {
		b    []byte
		want uint32
	}{
		{[]byte{0}, 0xD202EF8D},
		{[]byte{0xff}, 0xFF000000},
		{[]byte("a"), 0xE8B7BE43},
		{filled(4, 0xff), 0xFFFFFFFF},
		{filled(4, 0), 0x2144DF1C},
	} {
		if got := sums.Crc(c.b); got != c.want {
			t.Errorf("Crc(% x) = %08X, not %08X", c.b, got, c.want)
		}
	}
}

// P2.1: Crc is the remainder, by the chapter's rule and by the library's count.
func TestCrcIsTheRemainder(t *testing.T) {
	for _, b := range lists() {
		got := sums.Crc(b)
		if want := crc32.ChecksumIEEE(b); got != want {
			t.Errorf("Crc of %d bytes: %08X, not %08X", len(b), got, want)
		}
		if len(b) < 1000 && got != remainder(0, b) {
			t.Errorf("Crc of %d bytes: %08X, by the rule %08X", len(b), got, remainder(0, b))
		}
	}
}

// P2.1: More goes on from any sum, also from one that Crc told of nothing here.
func TestMoreGoesOnBehindAnySum(t *testing.T) {
	for _, sum := range startSums() {
		for _, b := range lists() {
			if len(b) > 1000 {
				continue
			}
			got := sums.More(sum, b)
			if want := crc32.Update(sum, crc32.IEEETable, b); got != want {
				t.Errorf("More(%08X, %d bytes) = %08X, not %08X", sum, len(b), got, want)
			}
			if len(b) < 10 && got != remainder(sum, b) {
				t.Errorf("More(%08X, % x) = %08X, by the rule %08X", sum, b, got, remainder(sum, b))
			}
		}
		for _, none := range [][]byte{nil, {}} {
			if got := sums.More(sum, none); got != sum {
				t.Errorf("More(%08X, none) = %08X", sum, got)
			}
		}
	}
}

// P2.1: a list's sum is the same in whatever pieces it comes.
func TestMoreOfPiecesIsCrcOfTheWhole(t *testing.T) {
	for _, n := range []int{0, 1, 2, 3, 4, 5, 8, 9, 64, 257} {
		whole := pattern(n, uint32(n)+7)
		want := sums.Crc(whole)
		for cut := range n + 1 {
			if got := sums.More(sums.Crc(whole[:cut]), whole[cut:]); got != want {
				t.Errorf("%d bytes cut at %d: %08X, not %08X", n, cut, got, want)
			}
		}
		for size := 1; size <= n; size++ {
			var got uint32
			for piece := range slices.Chunk(whole, size) {
				got = sums.More(got, piece)
			}
			if got != want {
				t.Errorf("%d bytes by %d: %08X, not %08X", n, size, got, want)
			}
		}
	}
}

// P2.2, examples 2.
func TestAdlerExamples(t *testing.T) {
	for _, c := range []struct {
		b    []byte
		want uint32
	}{
		{nil, 1},
		{[]byte{}, 1},
		{[]byte("Wikipedia"), 0x11E60398},
		{[]byte{1}, 0x00020002},
		{[]byte{0}, 0x00010001},
		{[]byte{0xff}, 0x01000100},
		{[]byte{1, 2}, 0x00060004},
		{[]byte{2, 1}, 0x00070004},
	} {
		if got := sums.Adler(c.b); got != c.want {
			t.Errorf("Adler(% x) = %08X, not %08X", c.b, got, c.want)
		}
	}
}

// P2.2: both sums are modulo 65521 at any length, by the chapter's rule and by the library's count.
func TestAdlerIsTwoSums(t *testing.T) {
	for _, b := range lists() {
		first, second := uint64(1), uint64(0)
		for _, v := range b {
			first += uint64(v)
			second += first
		}
		want := second%65521*65536 + first%65521
		if got := sums.Adler(b); uint64(got) != want || got != adler32.Checksum(b) {
			t.Errorf("Adler of %d bytes: %08X, not %08X", len(b), got, want)
		}
	}
}

// P2.2: at the place where a sum comes to 65521 it is 0, and just ahead of it, it is not.
func TestAdlerAtTheModulus(t *testing.T) {
	ahead := append(filled(256, 0xff), 65519-256*255)
	if got := sums.Adler(ahead) & 0xffff; got != 65520 {
		t.Errorf("first sum %d, not 65520", got)
	}
	if got := sums.Adler(append(ahead, 1)) & 0xffff; got != 0 {
		t.Errorf("first sum %d, not 0", got)
	}
	if got := sums.Adler(append(ahead, 2)) & 0xffff; got != 1 {
		t.Errorf("first sum %d, not 1", got)
	}
	// The first sum stays 1 over noughts, so that the second counts them.
	for n, want := range map[int]uint32{65520: 65520, 65521: 0, 65522: 1} {
		if got := sums.Adler(filled(n, 0)); got != want<<16|1 {
			t.Errorf("Adler of %d noughts: %08X", n, got)
		}
	}
}

// P2.3: More behind 0 is Crc.
func TestMoreBehindNoughtIsCrc(t *testing.T) {
	for _, b := range lists() {
		if more, crc := sums.More(0, b), sums.Crc(b); more != crc {
			t.Errorf("%d bytes: More(0) %08X, Crc %08X", len(b), more, crc)
		}
	}
}

// P2.3: of three lists as long, Crc of their xor is the xor of their Crcs.
func TestCrcOfThreeListsHeldAgainstEachOther(t *testing.T) {
	for _, n := range []int{0, 1, 2, 3, 4, 5, 9, 64, 1000} {
		for seed := range uint32(5) {
			three := [][]byte{pattern(n, seed), pattern(n, seed+100), pattern(n, seed+200)}
			if seed == 0 {
				three[1], three[2] = filled(n, 0), filled(n, 0xff)
			}
			together := make([]byte, n)
			for i := range together {
				together[i] = three[0][i] ^ three[1][i] ^ three[2][i]
			}
			want := sums.Crc(three[0]) ^ sums.Crc(three[1]) ^ sums.Crc(three[2])
			if got := sums.Crc(together); got != want {
				t.Errorf("%d bytes, seed %d: %08X, not %08X", n, seed, got, want)
			}
		}
	}
}

// changes: what up to width bytes next to each other may be taken xor: each bit alone, whole bytes, patterns, and the polynomial itself both ways about.
func changes(width int) [][]byte {
	var cs [][]byte
	for bit := range 8 * width {
		c := make([]byte, width)
		c[bit/8] = 1 << (bit % 8)
		cs = append(cs, c)
	}
	for v := 1; v < 256; v++ {
		cs = append(cs, filled(width, byte(v)))
	}
	for seed := range uint32(100) {
		c := pattern(width, seed)
		c[0] |= 1
		cs = append(cs, c)
	}
	if width == 4 {
		cs = append(cs, []byte{0x20, 0x83, 0xb8, 0xed}, []byte{0xed, 0xb8, 0x83, 0x20}, []byte{0x04, 0xc1, 0x1d, 0xb7})
	}
	return cs
}

// P2.3: one to four bytes next to each other are changed at the beginning, in the middle or at the end: Crc changes.
func TestCrcTellsAShortChange(t *testing.T) {
	for _, n := range []int{1, 2, 3, 4, 5, 9, 64} {
		was := pattern(n, uint32(n))
		for width := 1; width <= min(4, n); width++ {
			for _, at := range []int{0, (n - width) / 2, n - width} {
				for _, c := range changes(width) {
					is := slices.Clone(was)
					for i, v := range c {
						is[at+i] ^= v
					}
					if sums.Crc(is) == sums.Crc(was) {
						t.Errorf("%d bytes: % x at %d is not told", n, c, at)
					}
				}
			}
		}
	}
}

// P2.3: of all lists that differ in their first two bytes alone, no two have one Crc.
func TestCrcOfAllFirstPairs(t *testing.T) {
	for _, tail := range [][]byte{nil, pattern(10, 3)} {
		seen := map[uint32]string{}
		for v := range 1 << 16 {
			b := append([]byte{byte(v >> 8), byte(v)}, tail...)
			sum := sums.Crc(b)
			if other, ok := seen[sum]; ok {
				t.Fatalf("%x and %s have the sum %08X", b, other, sum)
			}
			seen[sum] = strconv.Itoa(v)
		}
	}
}

// R3: what is handed in stays as it was, with its spare room; R4: the same asked again is answered the same.
func TestArgumentsStay(t *testing.T) {
	calls := map[string]func(b []byte) uint32{
		"Crc":   sums.Crc,
		"More":  func(b []byte) uint32 { return sums.More(0x12345678, b) },
		"Adler": sums.Adler,
	}
	for name, call := range calls {
		for _, n := range []int{0, 1, 4, 9, 100} {
			whole := pattern(n+16, uint32(n))
			was := slices.Clone(whole)
			first := call(whole[:n])
			if again := call(whole[:n]); again != first {
				t.Errorf("%s of %d bytes: %08X, then %08X", name, n, first, again)
			}
			if !bytes.Equal(whole, was) {
				t.Errorf("%s of %d bytes changed what it was given", name, n)
			}
			if alone := call(slices.Clip(slices.Clone(whole[:n]))); alone != first {
				t.Errorf("%s of %d bytes hangs on the spare room", name, n)
			}
		}
	}
}

// R4: calls at the same time do not meet each other.
func TestCallsStandAlone(t *testing.T) {
	done := make(chan string)
	for k := range 8 {
		go func() {
			b := pattern(2000, uint32(k))
			said := ""
			for range 20 {
				if sums.Crc(b) != crc32.ChecksumIEEE(b) || sums.Adler(b) != adler32.Checksum(b) {
					said = "wrong beside others: " + strconv.Itoa(k)
				}
			}
			done <- said
		}()
	}
	for range 8 {
		if said := <-done; said != "" {
			t.Error(said)
		}
	}
}
