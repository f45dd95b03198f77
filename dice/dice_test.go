package dice

import (
	"math"
	"math/rand"
	"slices"
	"sync"
	"testing"
)

// 9.1: what is left of draws, written down.
func TestBelowTable(t *testing.T) {
	for _, c := range []struct{ draw, n, want int }{
		// The chapter's example, and others near.
		{7, 3, 1}, {0, 3, 0}, {1, 3, 1}, {2, 3, 2}, {3, 3, 0}, {8, 3, 2}, {9, 3, 0}, {9, 10, 9}, {10, 10, 0}, {11, 10, 1}, {5, 1000, 5},
		// Divided by one, nothing is left.
		{0, 1, 0}, {1, 1, 0}, {7, 1, 0}, {math.MaxInt, 1, 0}, {math.MinInt, 1, 0}, {-1, 1, 0},
		// Draws of a sign are those of the greatest bit: 2^64 - 1 at -1, 2^63 at the least one.
		{-1, 2, 1}, {-2, 2, 0}, {-1, 3, 0}, {-2, 3, 2}, {-3, 3, 1}, {-1, 10, 5}, {-2, 10, 4}, {-6, 10, 0}, {-7, 10, 9}, {-1, 7, 1}, {-1, 1000, 615}, {math.MinInt, 2, 0}, {math.MinInt, 3, 2}, {math.MinInt, 10, 8}, {math.MinInt, 1000, 808}, {math.MinInt + 1, 3, 0}, {math.MinInt + 1, 10, 9}, {math.MaxInt, 2, 1}, {math.MaxInt, 3, 1}, {math.MaxInt, 10, 7}, {math.MaxInt, 1000, 807},
		// Divided by the greatest int.
		{0, math.MaxInt, 0}, {1, math.MaxInt, 1}, {math.MaxInt - 1, math.MaxInt, math.MaxInt - 1}, {math.MaxInt, math.MaxInt, 0}, {math.MinInt, math.MaxInt, 1}, {math.MinInt + 5, math.MaxInt, 6}, {-1, math.MaxInt, 1}, {-2, math.MaxInt, 0}, {-3, math.MaxInt, math.MaxInt - 1},
		{-1, math.MaxInt - 1, 3}, {-1, 1 << 62, 1<<62 - 1}, {-1, 1 << 32, math.MaxUint32}, {-1, math.MaxUint32, 0}, {math.MinInt, 1 << 62, 0},
		// Below one there is nothing to divide by.
		{7, 0, 0}, {3, 0, 0}, {0, 0, 0}, {-1, 0, 0}, {math.MaxInt, 0, 0}, {math.MinInt, 0, 0}, {7, -1, 0}, {7, -3, 0}, {-7, -3, 0}, {7, -10, 0}, {-1, -1, 0}, {math.MinInt, -1, 0}, {math.MinInt + 1, math.MinInt, 0}, {7, math.MinInt, 0}, {-1, math.MinInt, 0}, {math.MaxInt, math.MinInt, 0}, {math.MaxInt, -2, 0},
	} {
		if got := Below(c.draw, c.n); got != c.want {
			t.Errorf("Below of %d and %d is %d, not %d", c.draw, c.n, got, c.want)
		}
	}
}

// 9.1: all draws of the edges, divided by all numbers of the edges, against the words; what is left is below what it is divided by.
func TestBelowEdges(t *testing.T) {
	for _, draw := range edgeDraws() {
		for _, n := range edgeCounts() {
			got := Below(draw, n)
			if want := belowWords(draw, n); got != want {
				t.Errorf("Below of %d and %d is %d, not %d", draw, n, got, want)
			}
			if got < 0 || got > 0 && got >= n {
				t.Errorf("Below of %d and %d is %d", draw, n, got)
			}
		}
	}
}

// 9.1: drawn draws, divided by drawn numbers, against the words.
func TestBelowDrawn(t *testing.T) {
	r := rand.New(rand.NewSource(91))
	for range 50000 {
		draw, n := drawnDraw(r), drawnDraw(r)
		if got, want := Below(draw, n), belowWords(draw, n); got != want {
			t.Fatalf("Below of %d and %d is %d, not %d", draw, n, got, want)
		}
	}
}

// 9.1: draws behind draws, written down.
func TestNextTable(t *testing.T) {
	for _, c := range []struct{ draw, want int }{
		{0, 1442695040888963407}, {1, 7806831264735756412},
		// Here the product is cut, or the sum.
		{2, -4275776585127002199}, {3, 2088359638719790806}, {4, 8452495862566583811}, {7, 9098160460397411210}, {1000, 1452213457886660887}, {1 << 32, 6961151790551630159}, {1 << 62, 6054381059316351311}, {math.MaxInt, 4301930853896946210}, {6364136223846793005, 8963592765199298360}, {1442695040888963407, 1876011003808476466},
		// Draws below 0.
		{-1, -4921441182957829598}, {-2, 7161166666904929013}, {-3, 797030443058136008}, {math.MinInt, -7780676995965812401}, {math.MinInt + 1, -1416540772119019396}, {-1442695040888963407, 1009379077969450348}, {-6364136223846793005, -6078202683421371546},
		// Those that come to the edges.
		{-7379792620528906219, 0}, {6498031520185415866, 1}, {-2810872687533676688, -1}, {1843579416325869589, math.MinInt}, {6412499349321099120, math.MaxInt},
	} {
		if got := Next(c.draw); got != c.want {
			t.Errorf("Next of %d is %d, not %d", c.draw, got, c.want)
		}
	}
}

// 9.1: draws one behind the other, from 0 on, written down.
func TestNextRow(t *testing.T) {
	draw := 0
	for i, want := range []int{1442695040888963407, 1876011003808476466, -7280499659394350823, 7401132627792533940, 7076646890315895283, -8100709956324362746, 1459328389850446429, 6566661184467396264} {
		if draw = Next(draw); draw != want {
			t.Fatalf("draw %d is %d, not %d", i+1, draw, want)
		}
	}
}

// 9.1: draws of the edges, drawn ones, and long rows of draws, against the words.
func TestNextWords(t *testing.T) {
	hold := func(draw int) {
		t.Helper()
		if got, want := Next(draw), nextWords(draw); got != want {
			t.Fatalf("Next of %d is %d, not %d", draw, got, want)
		}
	}
	for _, draw := range edgeDraws() {
		hold(draw)
	}
	r := rand.New(rand.NewSource(92))
	for range 50000 {
		hold(drawnDraw(r))
	}
	for _, draw := range []int{0, -1, math.MinInt} {
		for range 10000 {
			hold(draw)
			draw = Next(draw)
		}
	}
}

// 9.2: orders, written down.
func TestOrderTable(t *testing.T) {
	for _, c := range []struct {
		draw int
		want []int
	}{
		{0, rising(1)}, {1, rising(1)}, {-1, rising(1)}, {math.MaxInt, rising(1)}, {math.MinInt, rising(1)},
		{0, []int{0, 1}}, {1, []int{1, 0}}, {2, []int{0, 1}}, {3, []int{1, 0}}, {-1, []int{1, 0}}, {-2, []int{0, 1}}, {math.MinInt, []int{0, 1}}, {math.MaxInt, []int{1, 0}},
		// All of three, the chapter's examples among them, and how it goes on.
		{0, []int{0, 1, 2}}, {1, []int{1, 0, 2}}, {2, []int{2, 0, 1}}, {3, []int{0, 2, 1}}, {4, []int{1, 2, 0}}, {5, []int{2, 1, 0}}, {6, []int{0, 1, 2}}, {7, []int{1, 0, 2}}, {11, []int{2, 1, 0}}, {-1, []int{0, 2, 1}}, {-2, []int{2, 0, 1}}, {math.MinInt, []int{2, 0, 1}},
		{1, []int{1, 0, 2, 3}}, {11, []int{3, 2, 0, 1}}, {12, []int{0, 1, 3, 2}}, {23, []int{3, 2, 1, 0}}, {24, []int{0, 1, 2, 3}}, {-1, []int{3, 0, 2, 1}}, {7, []int{2, 1, 0, 3, 4}}, {-1, []int{0, 4, 1, 2, 3}}, {math.MinInt, []int{3, 1, 0, 2, 4}}, {math.MaxInt, []int{2, 1, 0, 3, 4}},
		// The draw is 0 ahead of the end: from there on they rise.
		{100, []int{0, 2, 3, 1, 4, 5, 6, 7, 8, 9}}, {1, []int{1, 0, 2, 3, 4, 5, 6, 7, 8, 9}}, {9, []int{9, 0, 1, 2, 3, 4, 5, 6, 7, 8}}, {10, []int{0, 2, 1, 3, 4, 5, 6, 7, 8, 9}}, {89, []int{9, 8, 0, 1, 2, 3, 4, 5, 6, 7}}, {90, []int{0, 1, 3, 2, 4, 5, 6, 7, 8, 9}},
		// The greatest draw, of numbers of which all orders are fewer and more than all draws.
		{-1, []int{5, 1, 0, 2, 9, 3, 4, 8, 7, 6}}, {math.MaxInt, []int{7, 0, 5, 4, 3, 1, 8, 9, 6, 2}}, {-1, []int{15, 1, 19, 16, 17, 9, 13, 3, 4, 2, 18, 5, 7, 6, 14, 12, 8, 0, 11, 10}}, {-1, []int{15, 0, 11, 17, 9, 5, 4, 6, 7, 12, 18, 8, 19, 14, 20, 2, 13, 1, 16, 3, 10}}, {-1, []int{5, 11, 18, 16, 17, 10, 8, 14, 3, 19, 4, 15, 6, 22, 13, 9, 7, 0, 1, 2, 12, 20, 21}}, {math.MinInt, []int{8, 0, 6, 10, 5, 3, 15, 2, 16, 17, 19, 4, 20, 14, 18, 11, 7, 1, 12, 9, 13}},
	} {
		if got := Order(c.draw, len(c.want)); !slices.Equal(got, c.want) {
			t.Errorf("Order of %d and %d is %v, not %v", c.draw, len(c.want), got, c.want)
		}
	}
}

// 9.2: of as many numbers as may be, the first ones written down, the others rising.
func TestOrderMost(t *testing.T) {
	for _, c := range []struct {
		draw  int
		first []int
	}{
		{0, nil}, {1, []int{1}}, {9, []int{9}}, {999, []int{999}}, {1000, []int{0, 2}}, {998999, []int{999, 998}}, {999000, []int{0, 1, 3}}, {-1, []int{615, 543, 412, 371, 417, 727, 18}}, {math.MinInt, []int{808, 271, 206, 686, 208, 364, 9}},
	} {
		want := slices.Clone(c.first)
		for number := range 1000 {
			if !slices.Contains(c.first, number) {
				want = append(want, number)
			}
		}
		if got := Order(c.draw, 1000); !slices.Equal(got, want) {
			t.Errorf("Order of %d and 1000 is %v", c.draw, got)
		}
	}
}

// 9.2: of wrong numbers there is no order, whatever the draw.
func TestOrderNone(t *testing.T) {
	for _, n := range noCounts() {
		for _, draw := range edgeDraws() {
			if got := Order(draw, n); len(got) != 0 {
				t.Fatalf("Order of %d and %d is %v", draw, n, got)
			}
		}
	}
	for n := -20; n <= 1020; n++ {
		if got := len(Order(n, n)); n >= 1 && n <= 1000 && got != n || (n < 1 || n > 1000) && got != 0 {
			t.Errorf("Order of %d numbers has %d", n, got)
		}
	}
}

// 9.2: of all numbers up to 20, the draw 0, that of the last order, and that behind it, with which they begin again.
func TestOrderEnds(t *testing.T) {
	for n := 1; n <= 20; n++ {
		count := orders(n)
		for _, c := range []struct {
			draw int
			want []int
		}{{0, rising(n)}, {count - 1, falling(n)}, {count, rising(n)}} {
			if got := Order(c.draw, n); !slices.Equal(got, c.want) {
				t.Errorf("Order of %d and %d is %v", c.draw, n, got)
			}
		}
		if n > 1 && slices.Equal(Order(count-2, n), falling(n)) {
			t.Errorf("%d numbers fall ahead of the last order", n)
		}
		// All others begin again, too.
		for _, draw := range []int{1, 2, 5, 100, count / 2} {
			if draw < count && !slices.Equal(Order(draw, n), Order(draw+count, n)) {
				t.Errorf("of %d numbers, %d and %d tell others", n, draw, draw+count)
			}
		}
	}
}

// 9.2: draws of the edges and drawn ones, against the words; each number is there once (9.3).
func TestOrderWords(t *testing.T) {
	hold := func(draw, n int) {
		t.Helper()
		got := Order(draw, n)
		if want := orderWords(draw, n); !slices.Equal(got, want) {
			t.Fatalf("Order of %d and %d is %v, not %v", draw, n, got, want)
		}
		if !eachOnce(got, n) {
			t.Fatalf("Order of %d and %d is %v", draw, n, got)
		}
	}
	for _, draw := range edgeDraws() {
		for n := 1; n <= 24; n++ {
			hold(draw, n)
		}
		hold(draw, 64)
	}
	for _, draw := range []int{0, 1, -1, math.MaxInt, math.MinInt, 1<<40 - 1} {
		for _, n := range []int{99, 100, 255, 256, 257, 998, 999, 1000} {
			hold(draw, n)
		}
	}
	r := rand.New(rand.NewSource(93))
	for range 20000 {
		hold(drawnDraw(r), 1+r.Intn(30))
	}
	for range 60 {
		hold(drawnDraw(r), 1+r.Intn(1000))
	}
}

// 9.2: the first number is what Below tells, and the others are an order by what is left of the draw.
func TestOrderByBelow(t *testing.T) {
	for _, draw := range edgeDraws() {
		if draw < 0 {
			continue // so that what is left is divided as an int is
		}
		for n := 2; n <= 12; n++ {
			first := Below(draw, n)
			want := []int{first}
			for _, place := range Order(draw/n, n-1) {
				if place >= first {
					place++
				}
				want = append(want, place)
			}
			if got := Order(draw, n); !slices.Equal(got, want) {
				t.Fatalf("Order of %d and %d is %v, not %v", draw, n, got, want)
			}
		}
	}
}

// 9.3: of a few numbers, the draws below the count of their orders tell each another one; so all come.
func TestAllOrders(t *testing.T) {
	for n := 1; n <= 8; n++ {
		met := make(map[string]int)
		for draw := range orders(n) {
			order := Order(draw, n)
			if !eachOnce(order, n) {
				t.Fatalf("Order of %d and %d is %v", draw, n, order)
			}
			key := ""
			for _, number := range order {
				key += string(rune('a' + number))
			}
			if ahead, ok := met[key]; ok {
				t.Fatalf("of %d numbers, %d and %d tell %v", n, ahead, draw, order)
			}
			met[key] = draw
		}
		if len(met) != orders(n) {
			t.Errorf("of %d numbers %d orders come", n, len(met))
		}
	}
}

// drawOf is a draw that tells an order (of at most 20 numbers): how many of those that are left stand ahead of each, together.
func drawOf(order []int) int {
	draw, weight := 0, 1
	for i, number := range order {
		ahead := 0
		for _, later := range order[i+1:] {
			if later < number {
				ahead++
			}
		}
		draw += ahead * weight
		weight *= len(order) - i
	}
	return draw
}

// 9.3: of up to 20 numbers, drawn orders come of some draw.
func TestOrderOfSomeDraw(t *testing.T) {
	r := rand.New(rand.NewSource(94))
	for n := 1; n <= 20; n++ {
		for range 300 {
			order := r.Perm(n)
			draw := drawOf(order)
			if got := Order(draw, n); draw < 0 || draw >= orders(n) || !slices.Equal(got, order) {
				t.Fatalf("Order of %d and %d is %v, not %v", draw, n, got, order)
			}
		}
	}
}

// R4: what is handed out is nobody else's: written over and added to, it changes no other answer.
func TestOrderMemory(t *testing.T) {
	for _, n := range []int{1, 2, 3, 10, 64, 1000} {
		for _, draw := range []int{0, 1, 5, -1, math.MinInt} {
			want := orderWords(draw, n)
			first, second := Order(draw, n), Order(draw, n)
			if !slices.Equal(first, want) || !slices.Equal(second, want) {
				t.Fatalf("Order of %d and %d is %v and %v", draw, n, first, second)
			}
			full := first[:cap(first)]
			for i := range full {
				full[i] = -7
			}
			_ = append(first, -8)
			if third := Order(draw, n); !slices.Equal(second, want) || !slices.Equal(third, want) {
				t.Fatalf("written over, Order of %d and %d is %v and %v", draw, n, second, third)
			}
		}
	}
}

// R5: many at once, each answers what it does alone, whatever was asked ahead.
func TestAtOnce(t *testing.T) {
	var wait sync.WaitGroup
	for worker := range 8 {
		wait.Go(func() {
			r := rand.New(rand.NewSource(int64(worker)))
			for range 300 {
				draw, n := drawnDraw(r), 1+r.Intn(40)
				if !slices.Equal(Order(draw, n), orderWords(draw, n)) || Below(draw, n) != belowWords(draw, n) || Next(draw) != nextWords(draw) {
					t.Errorf("draw %d, of %d", draw, n)
				}
			}
		})
	}
	wait.Wait()
}
