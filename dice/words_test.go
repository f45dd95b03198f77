package dice

import (
	"math"
	"math/big"
	"math/rand"
)

// unsigned is a draw as the chapter takes it: of 64 bits, without a sign.
func unsigned(draw int) *big.Int {
	u := big.NewInt(int64(draw))
	if draw < 0 {
		u.Add(u, cut())
	}
	return u
}

// cut is one above the greatest number of 64 bits.
func cut() *big.Int {
	return new(big.Int).Lsh(big.NewInt(1), 64)
}

// signed is the draw of a number of 64 bits.
func signed(u *big.Int) int {
	if u.Cmp(big.NewInt(math.MaxInt64)) > 0 {
		u = new(big.Int).Sub(u, cut())
	}
	return int(u.Int64())
}

// whole is a number that is written out.
func whole(digits string) *big.Int {
	n, ok := new(big.Int).SetString(digits, 10)
	if !ok {
		panic(digits)
	}
	return n
}

// belowWords is Below by the chapter's words.
func belowWords(draw, n int) int {
	if n < 1 {
		return 0
	}
	return int(new(big.Int).Mod(unsigned(draw), big.NewInt(int64(n))).Int64())
}

// nextWords is Next by the chapter's words.
func nextWords(draw int) int {
	u := new(big.Int).Mul(unsigned(draw), whole("6364136223846793005"))
	u.Add(u, whole("1442695040888963407"))
	return signed(u.Mod(u, cut()))
}

// orderWords is Order by the chapter's words: a row of which one after another is pulled out.
func orderWords(draw, n int) []int {
	if n < 1 || n > 1000 {
		return nil
	}
	var row, order []int
	for number := range n {
		row = append(row, number)
	}
	rest := unsigned(draw)
	for len(row) > 0 {
		at := new(big.Int)
		rest.DivMod(rest, big.NewInt(int64(len(row))), at)
		i := int(at.Int64())
		order = append(order, row[i])
		var others []int
		others = append(others, row[:i]...)
		row = append(others, row[i+1:]...)
	}
	return order
}

// orders is how many orders there are of so many numbers (at most 20, so that it is an int).
func orders(n int) int {
	count := 1
	for i := 2; i <= n; i++ {
		count *= i
	}
	return count
}

// rising are the numbers below one.
func rising(n int) []int {
	numbers := make([]int, n)
	for i := range numbers {
		numbers[i] = i
	}
	return numbers
}

// falling are the numbers below one, the greatest first.
func falling(n int) []int {
	numbers := make([]int, n)
	for i := range numbers {
		numbers[i] = n - 1 - i
	}
	return numbers
}

// eachOnce tells whether a list has all numbers below one, each once.
func eachOnce(list []int, n int) bool {
	met := make(map[int]int)
	for _, number := range list {
		met[number]++
	}
	for number := range n {
		if met[number] != 1 {
			return false
		}
	}
	return len(list) == n && len(met) == n
}

// edgeDraws are draws at the edges: of no bits, few, all, of the sign alone, and around each power of two.
func edgeDraws() []int {
	draws := []int{0, 1, 2, 3, 5, 6, 7, 23, 24, 25, 119, 120, 121, 999, 1000, 1001, -1, -2, -3, -7, -1000, math.MaxInt, math.MaxInt - 1, math.MinInt, math.MinInt + 1, math.MaxInt32, math.MinInt32, math.MaxUint32, 1442695040888963407, -1442695040888963407, 6364136223846793005, -6364136223846793005, orders(20), orders(20) - 1, orders(20) + 1}
	for bit := range 64 {
		power := int(int64(1) << bit)
		draws = append(draws, power, power-1, power+1, -power, -power-1)
	}
	return draws
}

// edgeCounts are numbers to divide by, right and wrong ones.
func edgeCounts() []int {
	counts := []int{0, 1, 2, 3, 4, 5, 6, 7, 10, 63, 64, 65, 255, 256, 257, 999, 1000, 1001, math.MaxInt32, 1 << 32, 1<<32 + 1, 1 << 62, 1<<62 + 1, math.MaxInt - 1, math.MaxInt}
	for _, n := range counts[1:] {
		counts = append(counts, -n)
	}
	return append(counts, math.MinInt, math.MinInt+1)
}

// noCounts are numbers of which there is no order.
func noCounts() []int {
	return []int{0, -1, -2, -3, -1000, -1001, math.MinInt, math.MinInt + 1, math.MinInt32, 1001, 1002, 1024, 2000, 1 << 16, math.MaxInt32, 1 << 32, 1<<32 + 3, math.MaxInt - 1, math.MaxInt}
}

// drawnDraw is a draw of any bits, often of few.
func drawnDraw(r *rand.Rand) int {
	return int(r.Uint64() >> r.Intn(64))
}
