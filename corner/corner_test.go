package corner

import (
	"fmt"
	"math"
	"math/big"
	"reflect"
	"slices"
	"testing"

	"cornerwalk/api"
	"cornerwalk/frac"
)

// prog answers a program of costs and of rows, the last number of each row being its Most.
func prog(costs []int64, rows ...[]int64) api.Prog {
	p := api.Prog{Costs: costs}
	for _, r := range rows {
		last := len(r) - 1
		p.Rows = append(p.Rows, api.Row{Of: r[:last:last], Most: r[last]})
	}
	return p
}

// point answers the point of nums divided by den.
func point(den int64, nums ...int64) api.Point { return api.Point{Nums: nums, Den: den} }

// wide answers a program of so many variables and rows, all its numbers being 1.
func wide(vars, rows int) api.Prog {
	p := api.Prog{Costs: slices.Repeat([]int64{1}, vars)}
	for range rows {
		p.Rows = append(p.Rows, api.Row{Of: slices.Repeat([]int64{1}, vars), Most: 1})
	}
	return p
}

// plainHas is C1, by its words: what column j has in row i.
func plainHas(p api.Prog, i, j int) *big.Rat {
	vars := len(p.Costs)
	switch {
	case j < vars:
		return big.NewRat(p.Rows[i].Of[j], 1)
	case j-vars == i:
		return big.NewRat(1, 1)
	}
	return new(big.Rat)
}

// plainWorth is C1's other half: what column j is worth.
func plainWorth(p api.Prog, j int) *big.Rat {
	if j < len(p.Costs) {
		return big.NewRat(p.Costs[j], 1)
	}
	return new(big.Rat)
}

// plainRank is the rank of the columns at, by elimination: the columns come to everything in one way, if it is the number of rows.
func plainRank(p api.Prog, at []int) int {
	lines := make([][]*big.Rat, len(at))
	for k, j := range at {
		for i := range p.Rows {
			lines[k] = append(lines[k], plainHas(p, i, j))
		}
	}
	rank := 0
	for i := range p.Rows {
		k := slices.IndexFunc(lines[rank:], func(l []*big.Rat) bool { return l[i].Sign() != 0 })
		if k < 0 {
			continue
		}
		lines[rank], lines[rank+k] = lines[rank+k], lines[rank]
		for _, l := range lines[rank+1:] {
			by := new(big.Rat).Quo(l[i], lines[rank][i])
			for c := range l {
				l[c] = new(big.Rat).Sub(l[c], new(big.Rat).Mul(by, lines[rank][c]))
			}
		}
		rank++
	}
	return rank
}

// rats answers the numbers of a point.
func rats(p api.Point) []*big.Rat {
	var out []*big.Rat
	for _, n := range p.Nums {
		out = append(out, big.NewRat(n, p.Den))
	}
	return out
}

// sum answers what the terms come to together.
func sum(n int, term func(int) *big.Rat) *big.Rat {
	total := new(big.Rat)
	for i := range n {
		total.Add(total, term(i))
	}
	return total
}

// mul answers the product.
func mul(a, b *big.Rat) *big.Rat { return new(big.Rat).Mul(a, b) }

// checkPoints holds the three points of c to A1, and to the numbers of columns and rows.
func checkPoints(t *testing.T, p api.Prog, c api.Corner) bool {
	t.Helper()
	vars, rows := len(p.Costs), len(p.Rows)
	if len(c.X.Nums) != vars+rows || len(c.Y.Nums) != rows || len(c.Gain.Nums) != vars+rows {
		t.Error("lengths", p, c)
		return false
	}
	for _, x := range []api.Point{c.X, c.Y, c.Gain} {
		if !frac.MayPoint(x) {
			t.Error("no point", p, x)
			return false
		}
	}
	return true
}

// checkCorner holds Look to what C2 says of X, Y and Gain, by its words; the rank tells whether there is one such way.
func checkCorner(t *testing.T, p api.Prog, at []int) {
	t.Helper()
	c, wrong := Look(p, at)
	if plainRank(p, at) < len(p.Rows) {
		if wrong != api.ErrNone || !reflect.DeepEqual(c, api.Corner{}) {
			t.Error("there is none", p, at, c, wrong)
		}
		return
	}
	if wrong != api.OK {
		t.Error("there is one", p, at, wrong)
		return
	}
	if !checkPoints(t, p, c) {
		return
	}
	x, y, gain := rats(c.X), rats(c.Y), rats(c.Gain)
	for i, r := range p.Rows {
		comes := sum(len(x), func(j int) *big.Rat { return mul(x[j], plainHas(p, i, j)) })
		if comes.Cmp(big.NewRat(r.Most, 1)) != 0 {
			t.Error("X in row", i, p, at, c.X)
		}
	}
	for j := range x {
		costs := sum(len(y), func(i int) *big.Rat { return mul(y[i], plainHas(p, i, j)) })
		if gain[j].Cmp(new(big.Rat).Sub(plainWorth(p, j), costs)) != 0 {
			t.Error("Gain", j, p, at, c)
		}
		if slices.Contains(at, j) && gain[j].Sign() != 0 {
			t.Error("Y at", j, p, at, c)
		}
		if !slices.Contains(at, j) && x[j].Sign() != 0 {
			t.Error("X beside", j, p, at, c)
		}
	}
}

// choices answers all rising lists of so many numbers from 0 to below end.
func choices(end, many int) [][]int {
	if many == 0 {
		return [][]int{{}}
	}
	var out [][]int
	for last := many - 1; last < end; last++ {
		for _, c := range choices(last, many-1) {
			out = append(out, append(c, last))
		}
	}
	return out
}

// checkAll holds Look to C2 at all choices of columns of p.
func checkAll(t *testing.T, p api.Prog) {
	t.Helper()
	for _, at := range choices(len(p.Costs)+len(p.Rows), len(p.Rows)) {
		checkCorner(t, p, at)
	}
}

// numbers answers a rule by which numbers from -limit to limit come, the same ones at each run.
func numbers(seed uint64) func(limit int64) int64 {
	return func(limit int64) int64 {
		seed = seed*6364136223846793005 + 1442695040888963407
		return int64(seed>>33)%(2*limit+1) - limit
	}
}

// mixed answers a program of numbers that come by a rule, from -entry to entry in its rows.
func mixed(next func(int64) int64, vars, rows int, cost, entry int64) api.Prog {
	p := wide(vars, rows)
	for j := range p.Costs {
		p.Costs[j] = next(cost)
	}
	for i := range p.Rows {
		p.Rows[i].Most = next(entry)
		for j := range p.Rows[i].Of {
			p.Rows[i].Of[j] = next(entry)
		}
	}
	return p
}

func TestC1ColumnsAreVariablesAndBehindThemRows(t *testing.T) {
	p := prog([]int64{3, 2, -5}, []int64{1, 7, 4, 9}, []int64{-2, 3, 8, 6})
	has := [][]int64{{1, -2}, {7, 3}, {4, 8}, {1, 0}, {0, 1}}
	value := []int64{3, 2, -5, 0, 0}
	for j := range has {
		if got := Column(p, j); !slices.Equal(got, has[j]) || worth(p, j) != value[j] {
			t.Error(j, got, worth(p, j))
		}
	}
	for _, j := range []int{-1, 5, 6, math.MinInt, math.MaxInt} {
		if got := Column(p, j); !slices.Equal(got, []int64{0, 0}) {
			t.Error("no such column", j, got)
		}
	}
	// One row alone is carried by any one column: X is Most over what it has, Y its worth over that.
	one := prog([]int64{8, -6, 0}, []int64{4, -3, 5, 12})
	for j, want := range []api.Corner{
		{X: point(1, 3, 0, 0, 0), Y: point(1, 2), Gain: point(1, 0, 0, -10, -2)},
		{X: point(1, 0, -4, 0, 0), Y: point(1, 2), Gain: point(1, 0, 0, -10, -2)},
		{X: point(5, 0, 0, 12, 0), Y: point(1, 0), Gain: point(1, 8, -6, 0, 0)},
		{X: point(1, 0, 0, 0, 12), Y: point(1, 0), Gain: point(1, 8, -6, 0, 0)},
	} {
		if got, wrong := Look(one, []int{j}); wrong != api.OK || !reflect.DeepEqual(got, want) {
			t.Error(j, got, wrong)
		}
	}
}

func TestC2Corners(t *testing.T) {
	p := prog([]int64{3, 2}, []int64{1, 1, 4}, []int64{1, 3, 6})
	for _, c := range []struct {
		at   []int
		want api.Corner
	}{
		{[]int{0, 1}, api.Corner{X: point(1, 3, 1, 0, 0), Y: point(2, 7, -1), Gain: point(2, 0, 0, -7, 1)}},
		{[]int{0, 2}, api.Corner{X: point(1, 6, 0, -2, 0), Y: point(1, 0, 3), Gain: point(1, 0, -7, 0, -3)}},
		{[]int{0, 3}, api.Corner{X: point(1, 4, 0, 0, 2), Y: point(1, 3, 0), Gain: point(1, 0, -1, -3, 0)}},
		{[]int{1, 2}, api.Corner{X: point(1, 0, 2, 2, 0), Y: point(3, 0, 2), Gain: point(3, 7, 0, 0, -2)}},
		{[]int{1, 3}, api.Corner{X: point(1, 0, 4, 0, -6), Y: point(1, 2, 0), Gain: point(1, 1, 0, -2, 0)}},
		{[]int{2, 3}, api.Corner{X: point(1, 0, 0, 4, 6), Y: point(1, 0, 0), Gain: point(1, 3, 2, 0, 0)}},
	} {
		if got, wrong := Look(p, c.at); wrong != api.OK || !reflect.DeepEqual(got, c.want) {
			t.Error(c.at, got, wrong)
		}
	}
}

// TestC2RowsAlone is the chapter's example: X is what is at most, Y is 0, Gain are the costs.
func TestC2RowsAlone(t *testing.T) {
	next := numbers(1)
	for vars := 1; vars <= 4; vars++ {
		for rows := 1; rows <= 4; rows++ {
			p := mixed(next, vars, rows, 400, 12)
			at, x, gain := []int{}, make([]int64, vars), slices.Clone(p.Costs)
			for i, r := range p.Rows {
				at, x, gain = append(at, vars+i), append(x, r.Most), append(gain, 0)
			}
			want := api.Corner{X: point(1, x...), Y: point(1, make([]int64, rows)...), Gain: point(1, gain...)}
			if got, wrong := Look(p, at); wrong != api.OK || !reflect.DeepEqual(got, want) {
				t.Error(p, got, wrong)
			}
		}
	}
}

// TestC2AllOfOneRow goes through small programs of one row, at each column.
func TestC2AllOfOneRow(t *testing.T) {
	for code := range 7 * 7 * 7 * 7 * 7 {
		p := prog([]int64{int64(code%7) - 3, int64(code/7%7) - 3}, []int64{int64(code/49%7) - 3, int64(code/343%7) - 3, int64(code/2401) - 3})
		checkAll(t, p)
	}
}

// TestC2AllOfTwoRows goes through what two columns of two rows may have, when it is small.
func TestC2AllOfTwoRows(t *testing.T) {
	for code := range 5 * 5 * 5 * 5 {
		a, b, c, d := int64(code%5)-2, int64(code/5%5)-2, int64(code/25%5)-2, int64(code/125)-2
		checkAll(t, prog([]int64{3, -2}, []int64{a, b, 5}, []int64{c, d, -7}))
	}
}

// TestC2AllSizes goes through all numbers of variables and rows, with numbers that are small (so that often there is none), and great ones.
func TestC2AllSizes(t *testing.T) {
	next := numbers(2)
	for vars := 1; vars <= 4; vars++ {
		for rows := 1; rows <= 4; rows++ {
			for range 6 {
				checkAll(t, mixed(next, vars, rows, 3, 1))
				checkAll(t, mixed(next, vars, rows, 400, 12))
			}
		}
	}
}

// TestC2GreatestNumbers has, of all programs, those whose volumes are the greatest: 16 times 12 to the fourth.
func TestC2GreatestNumbers(t *testing.T) {
	signs := [][]int64{{1, 1, 1, 1}, {1, -1, 1, -1}, {1, 1, -1, -1}, {1, -1, -1, 1}}
	for most := range 16 {
		for cost := range 16 {
			p := wide(4, 4)
			for i := range 4 {
				p.Rows[i].Most = 12 - int64(most>>i&1)*24
				p.Costs[i] = 400 - int64(cost>>i&1)*800
				for j := range 4 {
					p.Rows[i].Of[j] = 12 * signs[i][j]
				}
			}
			checkCorner(t, p, []int{0, 1, 2, 3})
			checkCorner(t, p, []int{0, 1, 2, 3 + most%5})
			p.Rows[3].Of[3], p.Rows[2].Of[1], p.Costs[cost%4] = 11, -11, 399
			checkAll(t, p)
		}
	}
}

// TestC2ThereIsNone has columns that come to some numbers of rows in no way, or in several ways.
func TestC2ThereIsNone(t *testing.T) {
	for _, c := range []struct {
		p  api.Prog
		at []int
	}{
		{prog([]int64{1}, []int64{0, 0}), []int{0}},
		{prog([]int64{1}, []int64{0, 5}), []int{0}},
		{prog([]int64{1, 1}, []int64{1, 2, 3}, []int64{2, 4, 6}), []int{0, 1}},
		{prog([]int64{1, 1}, []int64{1, 2, 3}, []int64{2, 4, 7}), []int{0, 1}},
		{prog([]int64{1, 1}, []int64{0, 2, 3}, []int64{5, 4, 6}), []int{0, 3}},
		{prog([]int64{1, 1}, []int64{0, 0, 0}, []int64{5, 4, 6}), []int{0, 1}},
		{wide(4, 4), []int{0, 1, 2, 3}},
		{wide(4, 4), []int{0, 1, 6, 7}},
		{prog([]int64{1, 1, 1}, []int64{1, 2, 3, 1}, []int64{4, 5, 6, 1}, []int64{7, 8, 9, 1}), []int{0, 1, 2}},
		{prog([]int64{1, 1, 1}, []int64{1, 2, 3, 1}, []int64{4, 5, 6, 1}, []int64{5, 7, 9, 1}), []int{0, 1, 2}},
	} {
		if got, wrong := Look(c.p, c.at); wrong != api.ErrNone || !reflect.DeepEqual(got, api.Corner{}) {
			t.Error(c.p, c.at, got, wrong)
		}
		checkCorner(t, c.p, c.at)
	}
}

// checkWrong holds Look to an error, and to nothing beside it.
func checkWrong(t *testing.T, p api.Prog, at []int, want api.Errno) {
	t.Helper()
	if got, wrong := Look(p, at); wrong != want || !reflect.DeepEqual(got, api.Corner{}) {
		t.Error(p, at, got, wrong)
	}
}

func TestC2WrongColumns(t *testing.T) {
	p := prog([]int64{3, 2}, []int64{1, 1, 4}, []int64{1, 3, 6})
	for _, at := range [][]int{
		nil, {}, {0}, {3}, {0, 1, 2}, {0, 1, 2, 3}, {1, 1}, {0, 0}, {3, 3}, {1, 0}, {3, 2}, {3, 0},
		{-1, 0}, {-1, 3}, {0, 4}, {3, 4}, {4, 5}, {0, -1}, {-2, -1}, {0, 1, 1},
		{math.MinInt, 0}, {0, math.MaxInt}, {math.MinInt, math.MaxInt}, {math.MaxInt, math.MinInt}, {math.MaxInt - 1, math.MaxInt}, {1 << 32, 1<<32 + 1}, {0, 1<<32 + 1},
	} {
		checkWrong(t, p, at, api.ErrRange)
	}
	for _, at := range [][]int{{2, 3}, {0, 3}, {1, 2}} {
		if _, wrong := Look(p, at); wrong != api.OK {
			t.Error(at, wrong)
		}
	}
	checkWrong(t, p, make([]int, 1000), api.ErrRange)
	for vars := 1; vars <= 4; vars++ {
		for rows := 1; rows <= 4; rows++ {
			w := wide(vars, rows)
			var at []int
			for i := range rows {
				at = append(at, vars+i)
			}
			checkWrong(t, w, at[1:], api.ErrRange)
			checkWrong(t, w, append([]int{0}, at...), api.ErrRange)
			checkWrong(t, w, append(slices.Clone(at[1:]), vars+rows), api.ErrRange)
			checkWrong(t, w, append([]int{-1}, at[1:]...), api.ErrRange)
		}
	}
}

func TestC2WrongPrograms(t *testing.T) {
	for _, p := range []api.Prog{
		{}, {Costs: []int64{1}}, {Rows: []api.Row{{}}}, {Rows: []api.Row{{Most: 1}, {}}},
		prog([]int64{1}, []int64{1}), prog([]int64{1}, []int64{1, 1, 1}), prog([]int64{1, 1}, []int64{1, 1, 1}, []int64{1, 1}),
		wide(5, 1), wide(1, 5), wide(5, 5), wide(0, 1), wide(1, 0), wide(1000, 1000),
		prog([]int64{401}, []int64{1, 1}), prog([]int64{-401}, []int64{1, 1}), prog([]int64{1}, []int64{13, 1}), prog([]int64{1}, []int64{-13, 1}),
		prog([]int64{1}, []int64{1, 13}), prog([]int64{1}, []int64{1, -13}), prog([]int64{math.MinInt64}, []int64{math.MinInt64, math.MinInt64}),
	} {
		for _, at := range [][]int{nil, {0}, {1}, {0, 1}, {1, 1}, {-1}, {0, 1, 2, 3, 4}, {math.MinInt}, {math.MaxInt}} {
			checkWrong(t, p, at, api.ErrForm)
		}
	}
}

// TestC2FirstThatApplies has two things wrong at once.
func TestC2FirstThatApplies(t *testing.T) {
	checkWrong(t, prog([]int64{401}, []int64{0, 1}), []int{0}, api.ErrForm)
	checkWrong(t, prog([]int64{401}, []int64{0, 1}), []int{7}, api.ErrForm)
	checkWrong(t, prog([]int64{1, 1}, []int64{0, 0, 1}), []int{0, 1}, api.ErrRange)
	checkWrong(t, wide(2, 2), []int{1, 0}, api.ErrRange)
	checkWrong(t, wide(2, 2), []int{0, 0}, api.ErrRange)
	checkWrong(t, wide(2, 2), []int{0, 1}, api.ErrNone)
}

// TestC2NewMemory holds Look to P3: nothing is changed, nothing behind a list is read or written, nothing is shared.
func TestC2NewMemory(t *testing.T) {
	costs, of, of2, at := []int64{3, 2, 999}, []int64{1, 1, 999}, []int64{1, 3, 999}, []int{2, 3, 999}
	rows := []api.Row{{Of: of[:2], Most: 4}, {Of: of2[:2], Most: 6}, {Most: 999}}
	p := api.Prog{Costs: costs[:2], Rows: rows[:2]}
	before := fmt.Sprint(costs, of, of2, at, rows)
	first, wrong := Look(p, at[:2])
	if wrong != api.OK {
		t.Fatal(wrong)
	}
	was := fmt.Sprint(first)
	for _, x := range []api.Point{first.X, first.Y, first.Gain} {
		clear(x.Nums[:cap(x.Nums)])
	}
	if got := fmt.Sprint(costs, of, of2, at, rows); got != before {
		t.Error("changed:", got)
	}
	second, _ := Look(p, at[:2])
	if fmt.Sprint(second) != was {
		t.Error("kept:", second)
	}
	for i := range second.X.Nums[:cap(second.X.Nums)] {
		second.X.Nums[:cap(second.X.Nums)][i] = 77
	}
	for i := range second.Y.Nums[:cap(second.Y.Nums)] {
		second.Y.Nums[:cap(second.Y.Nums)][i] = 88
	}
	if slices.Contains(second.Gain.Nums, 77) || slices.Contains(second.Gain.Nums, 88) || slices.Contains(second.X.Nums, 88) {
		t.Error("shared:", second)
	}
}
