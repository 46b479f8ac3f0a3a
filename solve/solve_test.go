package solve

import (
	"fmt"
	"math"
	"math/big"
	"slices"
	"testing"

	"cornerwalk/api"
	"cornerwalk/layout"
	"cornerwalk/proof"
)

// prog answers a program of costs and of rows, the last number of each row being its Most.
func prog(costs []int64, rows ...[]int64) api.Prog {
	p := api.Prog{Costs: costs}
	for _, r := range rows {
		last := len(r) - 1
		p.Rows = append(p.Rows, api.Row{Of: r[:last:last], Most: r[last]})
	}
	return p
}

// wide answers a program of so many variables and rows, with the same cost everywhere, and the same numbers in each row.
func wide(vars, rows int, cost, entry, most int64) api.Prog {
	p := api.Prog{Costs: slices.Repeat([]int64{cost}, vars)}
	for range rows {
		p.Rows = append(p.Rows, api.Row{Of: slices.Repeat([]int64{entry}, vars), Most: most})
	}
	return p
}

// numbers answers a rule by which numbers from -limit to limit come, the same ones at each run.
func numbers(seed uint64) func(limit int64) int64 {
	return func(limit int64) int64 {
		seed = seed*6364136223846793005 + 1442695040888963407
		return int64(seed>>33)%(2*limit+1) - limit
	}
}

// mixed answers a program of numbers that come by a rule, each from minus its limit on.
func mixed(next func(int64) int64, vars, rows int, cost, entry, most int64) api.Prog {
	p := wide(vars, rows, 0, 0, 0)
	for j := range p.Costs {
		p.Costs[j] = next(cost)
	}
	for i := range p.Rows {
		p.Rows[i].Most = next(most)
		for j := range p.Rows[i].Of {
			p.Rows[i].Of[j] = next(entry)
		}
	}
	return p
}

// Plain checks: D1 by its words and the library's big numbers, so that no package of the program is asked about its own answers.

// plainSum is the sum of products.
func plainSum(a, b []int64) *big.Int {
	sum := new(big.Int)
	for i := range a {
		sum.Add(sum, mul(a[i], b[i]))
	}
	return sum
}

func mul(a, b int64) *big.Int { return new(big.Int).Mul(big.NewInt(a), big.NewInt(b)) }

// plainPoint tells whether x is a point (A1) of so many numbers, none below 0.
func plainPoint(x api.Point, many int) bool {
	if len(x.Nums) != many || x.Den < 1 || x.Den > api.MaxPart {
		return false
	}
	common := big.NewInt(x.Den)
	for _, n := range x.Nums {
		if n < 0 || n > api.MaxPart {
			return false
		}
		common.GCD(nil, nil, common, big.NewInt(n))
	}
	return common.Cmp(big.NewInt(1)) == 0
}

// plainKeeps tells whether in each row what x comes to is at most Most times so much.
func plainKeeps(p api.Prog, x api.Point, times int64) bool {
	for _, r := range p.Rows {
		if plainSum(r.Of, x.Nums).Cmp(mul(r.Most, times)) > 0 {
			return false
		}
	}
	return true
}

// plainCovers tells whether of each variable what it has, at y, is at least its cost times so much.
func plainCovers(p api.Prog, y api.Point, times int64) bool {
	for j, cost := range p.Costs {
		var has []int64
		for _, r := range p.Rows {
			has = append(has, r.Of[j])
		}
		if plainSum(has, y.Nums).Cmp(mul(cost, times)) < 0 {
			return false
		}
	}
	return true
}

// plainIs tells whether f, as it is written, is num divided by den.
func plainIs(f api.Frac, num *big.Int, den int64) bool {
	q := new(big.Rat).SetFrac(num, big.NewInt(den))
	limit := big.NewInt(api.MaxPart)
	return q.Num().CmpAbs(limit) <= 0 && q.Denom().Cmp(limit) <= 0 && q.Num().Cmp(big.NewInt(f.Num)) == 0 && q.Denom().Cmp(big.NewInt(f.Den)) == 0
}

// plainHolds is D1, of a program that may be.
func plainHolds(p api.Prog, a api.Answer) bool {
	vars, rows := len(p.Costs), len(p.Rows)
	var mosts []int64
	for _, r := range p.Rows {
		mosts = append(mosts, r.Most)
	}
	empty := func(x api.Point) bool { return len(x.Nums) == 0 && x.Den == 0 }
	unworthy := a.Worth.Num == 0 && a.Worth.Den == 0
	switch a.Kind {
	case 1:
		return empty(a.Ray) && plainPoint(a.X, vars) && plainPoint(a.Y, rows) &&
			plainKeeps(p, a.X, a.X.Den) && plainCovers(p, a.Y, a.Y.Den) &&
			plainIs(a.Worth, plainSum(p.Costs, a.X.Nums), a.X.Den) && plainIs(a.Worth, plainSum(mosts, a.Y.Nums), a.Y.Den)
	case 2:
		return empty(a.Y) && unworthy && plainPoint(a.X, vars) && plainPoint(a.Ray, vars) && a.Ray.Den == 1 &&
			plainKeeps(p, a.X, a.X.Den) && plainKeeps(p, a.Ray, 0) && plainSum(p.Costs, a.Ray.Nums).Sign() > 0
	case 3:
		return empty(a.X) && empty(a.Ray) && unworthy && plainPoint(a.Y, rows) && a.Y.Den == 1 &&
			plainCovers(p, a.Y, 0) && plainSum(mosts, a.Y.Nums).Sign() < 0
	}
	return false
}

// check holds what Solve answers to F1, and answers it.
func check(t *testing.T, p api.Prog) api.Answer {
	t.Helper()
	a, wrong := Solve(p)
	if wrong != api.OK || !proof.Holds(p, a) || !plainHolds(p, a) {
		t.Error(p, "got", a, wrong)
	}
	return a
}

func TestF1Example(t *testing.T) {
	a := check(t, prog([]int64{1}, []int64{2, 3}))
	if want := "{1 {[3] 2} {[1] 2} {[] 0} {3 2}}"; fmt.Sprint(a) != want {
		t.Error(a)
	}
}

func TestF1Best(t *testing.T) {
	for _, c := range []struct {
		p     api.Prog
		worth api.Frac
	}{
		{prog([]int64{3, 2}, []int64{1, 1, 4}, []int64{1, 3, 6}), api.Frac{Num: 12, Den: 1}},
		{prog([]int64{2, 5}, []int64{1, 1, 4}, []int64{1, 3, 6}), api.Frac{Num: 11, Den: 1}},
		{prog([]int64{5, 4}, []int64{6, 4, 12}, []int64{1, 2, 5}), api.Frac{Num: 23, Den: 2}},
		{prog([]int64{5, 4, 3}, []int64{2, 3, 1, 5}, []int64{4, 1, 2, 11}, []int64{3, 4, 2, 8}), api.Frac{Num: 13, Den: 1}},
		// Nothing to win, though variables may grow without end.
		{prog([]int64{0}, []int64{-1, 0}), api.Frac{Num: 0, Den: 1}},
		{prog([]int64{0, 0}, []int64{0, 0, 0}), api.Frac{Num: 0, Den: 1}},
		{prog([]int64{-1, 0}, []int64{-1, -1, 12}), api.Frac{Num: 0, Den: 1}},
		// The rows alone do not go: at least so much must be, at a price, or by two rows that leave no room.
		{prog([]int64{-2}, []int64{-4, -1}), api.Frac{Num: -1, Den: 2}},
		{prog([]int64{3}, []int64{1, 5}, []int64{-1, -5}), api.Frac{Num: 15, Den: 1}},
		{prog([]int64{-3, -2}, []int64{-1, -1, -4}, []int64{-1, -3, -6}), api.Frac{Num: -8, Den: 1}},
		{prog([]int64{1, -1}, []int64{1, -1, -2}, []int64{-1, -1, -3}, []int64{1, 2, 9}), api.Frac{Num: -2, Den: 1}},
		// One point alone goes.
		{prog([]int64{400, 400}, []int64{1, 1, 0}), api.Frac{Num: 0, Den: 1}},
		{prog([]int64{7, -3}, []int64{1, 0, 2}, []int64{-1, 0, -2}, []int64{0, 1, 3}, []int64{0, -1, -3}), api.Frac{Num: 5, Den: 1}},
		// Rows and variables that are alike.
		{wide(4, 4, 400, 12, 12), api.Frac{Num: 400, Den: 1}},
		{wide(4, 4, -400, -12, -12), api.Frac{Num: -400, Den: 1}},
		{wide(4, 1, 400, 1, 12), api.Frac{Num: 4800, Den: 1}},
		{wide(1, 4, 400, 11, 12), api.Frac{Num: 4800, Den: 11}},
		// A row that all keep, and one that no variable is in.
		{prog([]int64{1}, []int64{0, 0}, []int64{1, 3}), api.Frac{Num: 3, Den: 1}},
		{prog([]int64{1}, []int64{-1, -1}, []int64{0, 5}, []int64{1, 3}), api.Frac{Num: 3, Den: 1}},
	} {
		if a := check(t, c.p); a.Kind != api.Best || a.Worth != c.worth {
			t.Error(c.p, "got", a, "want", c.worth)
		}
	}
}

func TestF1Endless(t *testing.T) {
	for _, p := range []api.Prog{
		prog([]int64{1}, []int64{-1, 2}),
		prog([]int64{1}, []int64{0, 0}),
		prog([]int64{1}, []int64{0, 12}),
		// From a corner on that is not of the rows alone.
		prog([]int64{1}, []int64{-1, -2}),
		prog([]int64{1, 1}, []int64{1, -1, 2}),
		prog([]int64{1, -1}, []int64{-1, 1, -3}),
		prog([]int64{1, 1}, []int64{-1, 0, -12}, []int64{0, -1, -12}),
		// Two variables must grow together; it is won by the first alone, the second one's cost is below 0.
		prog([]int64{2, -1}, []int64{1, -1, 3}),
		prog([]int64{2, -1}, []int64{1, -1, 3}, []int64{-1, 0, 0}),
		prog([]int64{400, -399}, []int64{1, -1, -1}, []int64{-1, 1, 1}),
		prog([]int64{12, -10}, []int64{11, -12, 5}, []int64{-12, 11, -5}),
		// The greatest and the least sizes and numbers, and variables that are worth nothing.
		prog([]int64{0, 0, 0, 1}, []int64{1, 1, 1, -1, -12}, []int64{-1, 0, 0, 0, -1}),
		wide(4, 4, 400, -12, -12), wide(4, 4, 1, 0, 0), wide(4, 1, 400, 0, 12), wide(1, 4, 1, -1, 0),
	} {
		if a := check(t, p); a.Kind != api.Endless {
			t.Error(p, "got", a)
		}
	}
}

func TestF1Nothing(t *testing.T) {
	for _, p := range []api.Prog{
		prog([]int64{1}, []int64{1, -2}),
		prog([]int64{0}, []int64{0, -1}),
		prog([]int64{-400}, []int64{12, -12}),
		// Rows that go alone, but not together.
		prog([]int64{1}, []int64{1, 3}, []int64{-1, -4}),
		prog([]int64{400}, []int64{3, 5}, []int64{-2, -4}),
		prog([]int64{1}, []int64{12, 11}, []int64{-11, -11}),
		prog([]int64{1, 1}, []int64{1, 2, 3}, []int64{-1, -2, -4}),
		prog([]int64{1, 1}, []int64{1, -1, -1}, []int64{-1, 1, 0}),
		prog([]int64{1, 1, 1}, []int64{1, -1, 0, -1}, []int64{0, 1, -1, 0}, []int64{-1, 0, 1, 0}),
		prog([]int64{1, 1, 1, 1}, []int64{1, -1, 0, 0, 0}, []int64{0, 1, -1, 0, 0}, []int64{0, 0, 1, -1, 0}, []int64{-1, 0, 0, 1, -1}),
		// It would lead on without end, or be best at 0, but for one row.
		prog([]int64{1, 1}, []int64{-1, -1, 0}, []int64{0, 0, -1}),
		prog([]int64{-1, -1}, []int64{1, 1, 12}, []int64{0, 12, -1}),
		prog([]int64{0}, []int64{-1, -1}, []int64{1, 0}),
		wide(4, 4, 1, 12, -12), wide(4, 4, 400, 0, -12), wide(1, 4, -1, 1, -1), wide(4, 1, -1, 1, -1),
	} {
		if a := check(t, p); a.Kind != api.Nothing {
			t.Error(p, "got", a)
		}
	}
}

// TestF1Alone has programs of which one answer alone holds.
func TestF1Alone(t *testing.T) {
	for _, c := range []struct {
		p    api.Prog
		x, y api.Point
	}{
		{prog([]int64{2, 3}, []int64{1, 1, 4}, []int64{1, 3, 6}), api.Point{Nums: []int64{3, 1}, Den: 1}, api.Point{Nums: []int64{3, 1}, Den: 2}},
		{prog([]int64{5, 4}, []int64{6, 4, 12}, []int64{1, 2, 5}), api.Point{Nums: []int64{2, 9}, Den: 4}, api.Point{Nums: []int64{3, 2}, Den: 4}},
		{prog([]int64{-2}, []int64{-4, -1}), api.Point{Nums: []int64{1}, Den: 4}, api.Point{Nums: []int64{1}, Den: 2}},
		{prog([]int64{1}, []int64{2, 4}), api.Point{Nums: []int64{2}, Den: 1}, api.Point{Nums: []int64{1}, Den: 2}},
	} {
		a := check(t, c.p)
		if fmt.Sprint(a.X, a.Y) != fmt.Sprint(c.x, c.y) {
			t.Error(c.p, "got", a, "want", c.x, c.y)
		}
	}
}

// kinds counts answers by their kind.
type kinds [4]int

func (k kinds) least() int { return min(k[api.Best], k[api.Endless], k[api.Nothing]) }

// TestF1AllSmall goes through all programs of two variables and two rows whose numbers are from -1 to 1, and all of one variable and one row whose numbers are from -4 to 4.
func TestF1AllSmall(t *testing.T) {
	var seen kinds
	for code := range 3 * 3 * 3 * 3 * 3 * 3 * 3 * 3 {
		n := make([]int64, 8)
		for i, rest := 0, code; i < 8; i, rest = i+1, rest/3 {
			n[i] = int64(rest%3) - 1
		}
		seen[check(t, prog(n[:2], n[2:5], n[5:])).Kind]++
	}
	for code := range 9 * 9 * 9 {
		p := prog([]int64{int64(code%9) - 4}, []int64{int64(code/9%9) - 4, int64(code/81) - 4})
		seen[check(t, p).Kind]++
	}
	if seen.least() < 1000 {
		t.Error("not all was tried", seen)
	}
}

// TestF1AllSizes has programs of all sizes: with small numbers, so that much is alike, with Mosts of 0, and with great numbers.
func TestF1AllSizes(t *testing.T) {
	next := numbers(3)
	for vars := 1; vars <= api.MaxVars; vars++ {
		for rows := 1; rows <= api.MaxRows; rows++ {
			var seen kinds
			for range 150 {
				seen[check(t, mixed(next, vars, rows, 2, 1, 1)).Kind]++
				seen[check(t, mixed(next, vars, rows, 9, 3, 0)).Kind]++
				seen[check(t, mixed(next, vars, rows, 30, 4, 12)).Kind]++
				seen[check(t, mixed(next, vars, rows, api.MaxCost, api.MaxEntry, api.MaxEntry)).Kind]++
			}
			if seen.least() < 10 {
				t.Error("not all was tried", vars, rows, seen)
			}
		}
	}
}

// TestF1OnlyTogether has programs in which nothing goes by one row's Most alone: with one more in it something does.
func TestF1OnlyTogether(t *testing.T) {
	next, tried := numbers(4), 0
	for range 4000 {
		p := mixed(next, 4, 4, 9, 3, 2)
		if check(t, p).Kind != api.Nothing {
			continue
		}
		last := &p.Rows[3].Most
		for *last < api.MaxEntry && check(t, p).Kind == api.Nothing {
			*last++
		}
		if check(t, p).Kind != api.Nothing {
			tried++
		}
	}
	if tried < 20 {
		t.Error("not enough was tried", tried)
	}
}

// TestF1GreatestNumbers has programs with the greatest volumes there are, so that the numbers of their answers are the greatest, too.
func TestF1GreatestNumbers(t *testing.T) {
	signs := [][]int64{{1, 1, 1, 1}, {1, -1, 1, -1}, {1, 1, -1, -1}, {1, -1, -1, 1}}
	for code := range 1 << 11 {
		p := wide(4, 4, 0, 0, 0)
		for i := range 4 {
			p.Rows[i].Most = 12 - int64(code>>i&1)*23
			p.Costs[i] = 400 - int64(code>>(i+4)&1)*799
			for j := range 4 {
				p.Rows[i].Of[j] = 12 * signs[i][j]
				if code>>(8+i%3)&1 == 1 {
					p.Rows[i].Of[j] -= signs[j][i]
				}
			}
		}
		p.Rows[3].Of[3], p.Rows[2].Of[1] = 11, -11
		check(t, p)
	}
}

// TestF1NeverComesBack has programs with many corners at 0, where a walk may come back.
func TestF1NeverComesBack(t *testing.T) {
	for _, p := range []api.Prog{
		prog([]int64{-5, 1, 8}, []int64{2, 9, 6, 0}, []int64{10, 1, -1, 0}, []int64{3, -7, -5, 0}),
		prog([]int64{23, -6, 21, 27}, []int64{8, 0, 7, 4, 0}, []int64{6, 8, 6, -12, 0}, []int64{9, 2, -11, -5, 0}),
		prog([]int64{-4, 6, 9, -25}, []int64{2, 3, 1, -3, 0}, []int64{-1, 1, -3, -3, 0}, []int64{0, -4, -2, 0, 0}, []int64{4, 3, 0, -3, 0}),
		prog([]int64{10, -57, -9, -12}, []int64{1, -11, -5, 9, 0}, []int64{1, -3, -1, 1, 0}, []int64{1, 0, 0, 0, 1}),
		prog([]int64{3, -10, 2, -6}, []int64{1, -4, -4, 9, 0}, []int64{2, -6, -2, 3, 0}, []int64{0, 0, 1, 0, 1}),
	} {
		check(t, p)
	}
}

func TestF1Limits(t *testing.T) {
	for _, p := range []api.Prog{
		prog([]int64{400}, []int64{12, 12}), prog([]int64{-400}, []int64{-12, -12}), prog([]int64{-400}, []int64{12, -12}), prog([]int64{400}, []int64{-12, 12}),
		wide(4, 4, 400, 12, -12), wide(4, 4, -400, -12, 12), wide(1, 1, 0, 0, 0), wide(4, 1, 0, 0, 0), wide(1, 4, 0, 0, 0),
	} {
		check(t, p)
	}
}

func TestF1Wrong(t *testing.T) {
	for _, p := range []api.Prog{
		{}, {Costs: []int64{1}}, {Rows: []api.Row{{}}}, {Rows: []api.Row{{Most: 1}, {}}}, {Costs: []int64{1}, Rows: []api.Row{{}}},
		prog([]int64{1}, []int64{1}), prog([]int64{1}, []int64{1, 1, 1}), prog([]int64{1, 1}, []int64{1, 1, 1}, []int64{1, 1}), prog([]int64{1}, []int64{1, -1}, []int64{-1}),
		wide(5, 1, 1, 1, 1), wide(1, 5, 1, 1, 1), wide(5, 5, 1, 1, 1), wide(0, 1, 1, 1, 1), wide(1, 0, 1, 1, 1), wide(0, 1, 1, 1, -1), wide(1000, 1000, 1, 1, 1),
		prog([]int64{401}, []int64{1, 1}), prog([]int64{-401}, []int64{1, 1}), prog([]int64{1, 401}, []int64{1, 1, 1}),
		prog([]int64{1}, []int64{13, 1}), prog([]int64{1}, []int64{-13, 1}), prog([]int64{1}, []int64{1, 1}, []int64{13, 1}),
		prog([]int64{1}, []int64{1, 13}), prog([]int64{1}, []int64{1, -13}), prog([]int64{1}, []int64{1, 1}, []int64{1, -13}),
		wide(1, 1, math.MinInt64, math.MinInt64, math.MinInt64), wide(4, 4, math.MaxInt64, math.MaxInt64, math.MaxInt64),
		prog([]int64{1}, []int64{1, math.MinInt64}), prog([]int64{1}, []int64{1 << 32, 1}), prog([]int64{1<<32 + 1}, []int64{1, 1}),
	} {
		if a, wrong := Solve(p); wrong != api.ErrForm || fmt.Sprint(a) != fmt.Sprint(api.Answer{}) {
			t.Error(p, a, wrong)
		}
	}
}

// TestF1Corners holds the way through the corners to all of them, each once, and to an end when it is told to end.
func TestF1Corners(t *testing.T) {
	next := numbers(5)
	p := mixed(next, 4, 4, 9, 12, 12)
	seen := map[string]int{}
	for at, c := range Corners(p) {
		if len(seen) == 0 && !slices.Equal(at, []int{4, 5, 6, 7}) {
			t.Error("not the rows first", at)
		}
		if !slices.IsSorted(at) || len(c.X.Nums) != 8 {
			t.Error(at, c)
		}
		seen[fmt.Sprint(at)]++
	}
	if len(seen) != 70 || seen["[0 1 2 3]"] != 1 {
		t.Error(len(seen), seen)
	}
	many := 0
	for range Corners(p) {
		if many++; many == 3 {
			break
		}
	}
	if many != 3 {
		t.Error(many)
	}
	for _, none := range []api.Prog{{}, wide(40, 40, 1, 1, 1), wide(1, 1, 401, 1, 1)} {
		for at := range Corners(none) {
			t.Error(none, at)
		}
	}
}

// backed answers a list with more behind its length than it says.
func backed[T any](list []T, behind T) []T {
	return append(slices.Clone(list), behind)[:len(list)]
}

// TestF1NewMemory holds Solve to P3: nothing is changed or kept, nothing behind a list is read or written, nothing is shared, and the same comes again.
func TestF1NewMemory(t *testing.T) {
	for _, p := range []api.Prog{
		prog([]int64{3, 2}, []int64{1, 1, 4}, []int64{1, 3, 6}),
		prog([]int64{2, -1}, []int64{1, -1, 3}, []int64{-1, 0, -1}),
		prog([]int64{1, 1}, []int64{1, 2, 3}, []int64{-1, -2, -4}),
	} {
		plain, _ := Solve(p)
		want := fmt.Sprint(plain)
		p.Costs, p.Rows = backed(p.Costs, 999), backed(p.Rows, api.Row{Most: 999})
		for i := range p.Rows {
			p.Rows[i].Of = backed(p.Rows[i].Of, 999)
		}
		given := func() string {
			text := fmt.Sprint(p.Costs[:3], p.Rows[:3])
			for _, r := range p.Rows {
				text += fmt.Sprint(r.Of[:3])
			}
			return text
		}
		before := given()
		for range 2 {
			a, _ := Solve(p)
			if fmt.Sprint(a) != want {
				t.Error("kept:", a, want)
			}
			lists := [][]int64{a.X.Nums, a.Y.Nums, a.Ray.Nums}
			for n, list := range lists {
				whole := list[:cap(list)]
				for i := range whole {
					whole[i] = 100 + int64(n)
				}
			}
			for n, list := range lists {
				if layout.Below(100+int64(n), list...) || slices.ContainsFunc(list, func(m int64) bool { return m > 100+int64(n) }) {
					t.Error("shared:", n, lists)
				}
			}
			if given() != before {
				t.Error("changed:", before, given())
			}
		}
	}
}
