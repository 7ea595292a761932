package books_test

import (
	"slices"
	"testing"

	"spile/api"
	"spile/books"
)

func TestP12_1Example(t *testing.T) {
	for _, c := range []struct {
		n int
		b []byte
	}{{0, octets(0)}, {-1, octets(1)}, {1, octets(2)}, {63, octets(126)}, {-64, octets(127)}, {64, octets(128, 1)}} {
		samePut(t, c.n, c.b, api.OK)
		sameGet(t, c.b, c.n, len(c.b), api.OK)
	}
	sameGet(t, octets(128, 0), 0, 0, api.ErrForm)
	sameGet(t, octets(128), 0, 0, api.ErrEnd)
}

// TestP12_1Ends has the greatest numbers, and those where one byte more begins.
func TestP12_1Ends(t *testing.T) {
	for _, c := range []struct {
		n int
		b []byte
	}{
		{-65, octets(129, 1)}, {8191, octets(254, 127)}, {-8192, octets(255, 127)}, {8192, octets(128, 128, 1)}, {-8193, octets(129, 128, 1)},
		{mass, octets(128, 192, 168, 202, 154, 58)}, {far, octets(128, 128, 180, 204, 212, 223, 198, 3)}, {-far, octets(255, 255, 179, 204, 212, 223, 198, 3)},
	} {
		samePut(t, c.n, c.b, api.OK)
		sameGet(t, c.b, c.n, len(c.b), api.OK)
	}
	for size := 1; size < 8; size++ {
		first := 1 << (7*size - 1) // the first number that needs one byte more
		for _, n := range list(first-1, -first) {
			if b, e := books.Put(n); len(b) != size || e != api.OK {
				t.Error("Put of", n, "has", b, e)
			}
		}
		for _, n := range list(first, -first-1) {
			if b, e := books.Put(n); len(b) != size+1 || e != api.OK {
				t.Error("Put of", n, "has", b, e)
			}
		}
	}
}

func TestP12_1PutErrors(t *testing.T) {
	for _, n := range list(far+1, -far-1, 2*far, -2*far, high, low, high-1, low+1, high/2+1, low/2, low/2-1) {
		samePut(t, n, nil, api.ErrRange)
	}
}

func TestP12_1GetErrors(t *testing.T) {
	for _, c := range []struct {
		b       []byte
		n, used int
		e       api.Errno
	}{
		{nil, 0, 0, api.ErrEnd}, {octets(), 0, 0, api.ErrEnd}, {octets(255), 0, 0, api.ErrEnd}, {octets(129, 255, 128), 0, 0, api.ErrEnd}, {times(7, byte(128)), 0, 0, api.ErrEnd}, {times(7, byte(255)), 0, 0, api.ErrEnd},
		{times(8, byte(128)), 0, 0, api.ErrRange}, {times(8, byte(255)), 0, 0, api.ErrRange}, {times(9, byte(128)), 0, 0, api.ErrRange}, {times(100, byte(128)), 0, 0, api.ErrRange}, {joined(times(8, byte(128)), octets(0)), 0, 0, api.ErrRange}, {joined(times(8, byte(128)), octets(1)), 0, 0, api.ErrRange}, {joined(times(20, byte(200)), octets(1)), 0, 0, api.ErrRange},
		{joined(times(7, byte(128)), octets(0)), 0, 0, api.ErrForm}, {joined(times(7, byte(255)), octets(0)), 0, 0, api.ErrForm}, {octets(255, 0), 0, 0, api.ErrForm}, {octets(129, 128, 0), 0, 0, api.ErrForm}, {octets(128, 0, 1), 0, 0, api.ErrForm}, {octets(255, 0, 255), 0, 0, api.ErrForm},
		{octets(0, 0), 0, 1, api.OK}, {octets(0, 128), 0, 1, api.OK}, {octets(1, 0), -1, 1, api.OK}, {octets(127, 255), -64, 1, api.OK}, {octets(128, 1, 0), 64, 2, api.OK}, {octets(128, 1, 255, 255, 255, 255, 255, 255, 255), 64, 2, api.OK}, {joined(times(7, byte(128)), octets(1)), 281474976710656, 8, api.OK}, {joined(times(7, byte(255)), octets(1)), -562949953421312, 8, api.OK}, {joined(times(7, byte(128)), octets(1), times(9, byte(128))), 281474976710656, 8, api.OK},
		{octets(130, 128, 180, 204, 212, 223, 198, 3), 0, 0, api.ErrRange}, {octets(129, 128, 180, 204, 212, 223, 198, 3), 0, 0, api.ErrRange}, {joined(times(7, byte(128)), octets(127)), 0, 0, api.ErrRange}, {joined(times(7, byte(255)), octets(127)), 0, 0, api.ErrRange}, {octets(130, 128, 180, 204, 212, 223, 198, 3, 0, 0), 0, 0, api.ErrRange}, {octets(128, 128, 180, 204, 212, 223, 198, 4), 0, 0, api.ErrRange},
	} {
		sameGet(t, c.b, c.n, c.used, c.e)
		n, used, e := getOf(c.b)
		sameGet(t, c.b, n, used, e)
	}
}

// TestP12_1Definitions compares numbers of all sizes, with other bytes behind them, and cut off.
func TestP12_1Definitions(t *testing.T) {
	d := dice()
	for i := range 40000 {
		n := i - 20000
		if i%2 == 0 {
			n = anyNumber(d)
		}
		b, e := putOf(n)
		samePut(t, n, b, e)
		sameGet(t, joined(b, anyBytes(d, d.IntN(4))), n, len(b), api.OK)
		for end := range b {
			sameGet(t, b[:end], 0, 0, api.ErrEnd)
		}
	}
	seen := map[api.Errno]int{}
	for range 40000 {
		b := anyBytes(d, d.IntN(12))
		if d.IntN(3) == 0 {
			b = joined(times(d.IntN(9), byte(pick(d, 128, 255))), b)
		}
		n, used, e := getOf(b)
		sameGet(t, b, n, used, e)
		seen[e]++
	}
	for _, e := range []api.Errno{api.OK, api.ErrRange, api.ErrEnd, api.ErrForm} {
		if seen[e] < 100 {
			t.Error("too few of the error", e, seen)
		}
	}
}

func TestP12_2Sum(t *testing.T) {
	for _, c := range []struct {
		b    []byte
		want int
	}{
		{nil, 65535}, {octets(), 65535}, {octets(0), 63824}, {octets(1), 23483}, {octets(255), 65280}, {octets(0, 0), 56828}, {octets(0, 255), 56236}, {octets(255, 0), 1616}, {octets(255, 255), 0}, {octets(77), 44212}, {[]byte("123456789"), 40369}, {[]byte("17 25000 6600-6650 3,4"), 26731},
	} {
		sameSum(t, c.b, c.want)
	}
}

// TestP12_2Definitions compares with the register as it is told, and with the rest of a division.
func TestP12_2Definitions(t *testing.T) {
	for n := range 65536 {
		b := octets(n>>8, n)
		if n < 256 {
			sameSum(t, b[1:], restOf(b[1:]))
		}
		sameSum(t, b, restOf(b))
	}
	d := dice()
	for range 2000 {
		b := anyBytes(d, d.IntN(40))
		sameSum(t, b, sumOf(b))
		sameSum(t, b, restOf(b))
	}
	long := anyBytes(d, 20000)
	sameSum(t, long, sumOf(long))
}

// bursts returns changes of up to 16 neighbouring bits, the first and the last one of which are changed: all of one bit and of two, and some of the others.
func bursts(d interface{ IntN(n int) int }) []int {
	l := list(1)
	for size := 2; size <= 16; size++ {
		ends := 1<<(size-1) + 1
		l = append(l, ends, 1<<size-1, ends|d.IntN(1<<(size-1))&^1)
	}
	return l
}

// changed returns bytes with a change that begins at a bit, as far as there are bits.
func changed(b []byte, bit, burst int) []byte {
	b = slices.Clone(b)
	for i := range 16 {
		if at := bit + i; burst>>i&1 == 1 && at < 8*len(b) {
			b[at/8] ^= 128 >> (at % 8)
		}
	}
	return b
}

// TestP12_2Bursts changes up to 16 neighbouring bits: the sum is another one.
func TestP12_2Bursts(t *testing.T) {
	d := dice()
	for size := range 12 {
		b := anyBytes(d, size)
		for bit := range 8 * size {
			for _, burst := range bursts(d) {
				if other := changed(b, bit, burst); books.Sum(other) == books.Sum(b) {
					t.Fatal("the same sum of", b, other)
				}
			}
		}
	}
	b := anyBytes(d, 3)
	for burst := 1; burst < 65536; burst += 2 {
		for bit := range 8 {
			if other := changed(b, bit, burst); books.Sum(other) == books.Sum(b) {
				t.Fatal("the same sum of", b, other)
			}
		}
	}
}
