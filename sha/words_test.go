package sha

import (
	"encoding/binary"
	"math/big"
	"sync"

	"hearsay/api"
)

// ofWords is the chapter's words, so that Of can be held against them: all at once, not piece by piece, with words in numbers that hold more.
func ofWords(t string) api.Digest {
	var h [8]uint64
	copy(h[:], squareRoots())
	for all := whole(t); all != ""; all = all[64:] {
		h = ofBlock(h, all[:64])
	}
	var d api.Digest
	for i := range h {
		binary.BigEndian.PutUint32(d[4*i:], uint32(h[i]))
	}
	return d
}

// whole is step 1: a text, and what stands behind it.
func whole(t string) string {
	count := uint64(len(t)) * 8
	t += "\x80"
	for (len(t)+8)%64 != 0 {
		t += "\x00"
	}
	return t + string(binary.BigEndian.AppendUint64(nil, count))
}

// ofBlock is step 3.
func ofBlock(h [8]uint64, text string) [8]uint64 {
	w := rowWords(text)
	v := h
	for i := range w {
		t1 := v[7] + three(v[4], 6, 11, 25) + chosen(v[4], v[5], v[6]) + cubeRoots()[i] + w[i]
		t2 := three(v[0], 2, 13, 22) + twoOf(v[0], v[1], v[2])
		copy(v[1:], v[:7])
		v[4], v[0] = cut(v[4]+t1), cut(t1+t2)
	}
	for i := range h {
		h[i] = cut(h[i] + v[i])
	}
	return h
}

func rowWords(text string) [64]uint64 {
	var w [64]uint64
	for i := range w {
		if i < 16 {
			w[i] = uint64(binary.BigEndian.Uint32([]byte(text[4*i:])))
			continue
		}
		s0 := turnedWord(w[i-15], 7) ^ turnedWord(w[i-15], 18) ^ w[i-15]/8
		s1 := turnedWord(w[i-2], 17) ^ turnedWord(w[i-2], 19) ^ w[i-2]/1024
		w[i] = cut(w[i-16] + s0 + w[i-7] + s1)
	}
	return w
}

func three(x uint64, i, j, k uint) uint64 {
	return turnedWord(x, i) ^ turnedWord(x, j) ^ turnedWord(x, k)
}

func turnedWord(x uint64, n uint) uint64 {
	return x/(1<<n) + x%(1<<n)*(1<<(32-n))
}

func chosen(e, f, g uint64) uint64 {
	sum := uint64(0)
	for bit := uint64(1); bit < 1<<32; bit *= 2 {
		if e&bit != 0 {
			sum += f & bit
		} else {
			sum += g & bit
		}
	}
	return sum
}

func twoOf(a, b, c uint64) uint64 {
	sum := uint64(0)
	for bit := uint64(1); bit < 1<<32; bit *= 2 {
		if (a&bit)+(b&bit)+(c&bit) >= 2*bit {
			sum += bit
		}
	}
	return sum
}

func cut(n uint64) uint64 {
	return n % (1 << 32)
}

var squareRoots = sync.OnceValue(func() []uint64 { return roots(8, 2) })
var cubeRoots = sync.OnceValue(func() []uint64 { return roots(64, 3) })

// roots are the first 32 bits behind the point of the roots of the first primes.
func roots(count int, degree int64) []uint64 {
	var list []uint64
	for _, p := range primes(count) {
		under := new(big.Int).Lsh(big.NewInt(p), uint(32*degree))
		low, high := big.NewInt(0), new(big.Int).Set(under)
		for low.Cmp(high) < 0 {
			mid := new(big.Int).Add(low, high)
			mid.Add(mid, big.NewInt(1)).Rsh(mid, 1)
			if new(big.Int).Exp(mid, big.NewInt(degree), nil).Cmp(under) <= 0 {
				low = mid
			} else {
				high = mid.Sub(mid, big.NewInt(1))
			}
		}
		list = append(list, cut(low.Uint64()))
	}
	return list
}

func primes(count int) []int64 {
	var list []int64
	for n := int64(2); len(list) < count; n++ {
		prime := true
		for _, p := range list {
			prime = prime && n%p != 0
		}
		if prime {
			list = append(list, n)
		}
	}
	return list
}
