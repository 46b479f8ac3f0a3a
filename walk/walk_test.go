package walk

import (
	"fmt"
	"math"
	"math/big"
	"slices"
	"testing"

	"cornerwalk/api"
	"cornerwalk/corner"
	"cornerwalk/frac"
	"cornerwalk/layout"
	"cornerwalk/proof"
)

// prog answers a program of costs and of rows, the last number of each row being its Most.
func prog(costs []int64, rows ...[]int64) api.Prog {
	p := api.Prog{Costs: costs}
	for _, r := range rows {
		last := len(r) - 1
		p.Rows = append(p.Rows, api.Row{Of: r[:last:last], Most: r[last]})
	}
	return p
}

// wide answers a program of so many variables and rows, all its numbers being 1.
func wide(vars, rows int) api.Prog {
	p := api.Prog{Costs: slices.Repeat([]int64{1}, vars)}
	for range rows {
		p.Rows = append(p.Rows, api.Row{Of: slices.Repeat([]int64{1}, vars), Most: 1})
	}
	return p
}

// rowsOf answers the columns of p that are its rows.
func rowsOf(p api.Prog) []int {
	var at []int
	for i := range p.Rows {
		at = append(at, len(p.Costs)+i)
	}
	return at
}

// choices answers all rising lists of so many numbers from 0 to below end.
func choices(end, many int) [][]int {
	if many == 0 {
		return [][]int{{}}
	}
	var out [][]int
	for last := many - 1; last < end; last++ {
		for _, c := range choices(last, many-1) {
			out = append(out, append(c, last))
		}
	}
	return out
}

// allOf answers all choices of as many columns of p as there are rows.
func allOf(p api.Prog) [][]int { return choices(len(p.Costs)+len(p.Rows), len(p.Rows)) }

// numbers answers a rule by which numbers from -limit to limit come, the same ones at each run.
func numbers(seed uint64) func(limit int64) int64 {
	return func(limit int64) int64 {
		seed = seed*6364136223846793005 + 1442695040888963407
		return int64(seed>>33)%(2*limit+1) - limit
	}
}

// mixed answers a program of numbers that come by a rule; most is what its Mosts are from -most to most.
func mixed(next func(int64) int64, vars, rows int, cost, entry, most int64) api.Prog {
	p := wide(vars, rows)
	for j := range p.Costs {
		p.Costs[j] = next(cost)
	}
	for i := range p.Rows {
		p.Rows[i].Most = next(most)
		for j := range p.Rows[i].Of {
			p.Rows[i].Of[j] = next(entry)
		}
	}
	return p
}

// programs answers programs of all sizes: with small numbers, so that several columns are alike, with Mosts of 0, so that columns are 0 at a corner, and with great ones.
func programs(seed uint64, many int) []api.Prog {
	next := numbers(seed)
	var out []api.Prog
	for n := range many * 16 {
		vars, rows := n%4+1, n/4%4+1
		out = append(out, mixed(next, vars, rows, 2, 1, 1), mixed(next, vars, rows, 9, 3, 0), mixed(next, vars, rows, 400, 12, 12))
		some := mixed(next, vars, rows, 30, 4, 12)
		for i := range some.Rows {
			some.Rows[i].Most = max(some.Rows[i].Most, -some.Rows[i].Most)
		}
		out = append(out, some)
	}
	return out
}

// plainTable answers all columns of p, by C1, and its Mosts behind them, a line for each row.
func plainTable(p api.Prog) [][]*big.Rat {
	table := make([][]*big.Rat, len(p.Rows))
	for i, r := range p.Rows {
		for _, n := range r.Of {
			table[i] = append(table[i], big.NewRat(n, 1))
		}
		for k := range p.Rows {
			table[i] = append(table[i], new(big.Rat))
			if k == i {
				table[i][len(r.Of)+k].SetInt64(1)
			}
		}
		table[i] = append(table[i], big.NewRat(r.Most, 1))
	}
	return table
}

// plainReduced answers the table by elimination, so that the line k has 1 in the column at[k], all others 0; nothing, where that cannot be.
func plainReduced(p api.Prog, at []int) [][]*big.Rat {
	table := plainTable(p)
	for k, j := range at {
		found := slices.IndexFunc(table[k:], func(line []*big.Rat) bool { return line[j].Sign() != 0 })
		if found < 0 {
			return nil
		}
		table[k], table[k+found] = table[k+found], table[k]
		by := new(big.Rat).Set(table[k][j])
		for c := range table[k] {
			table[k][c] = new(big.Rat).Quo(table[k][c], by)
		}
		for i := range table {
			if i == k {
				continue
			}
			by := new(big.Rat).Set(table[i][j])
			for c := range table[i] {
				table[i][c] = new(big.Rat).Sub(table[i][c], new(big.Rat).Mul(by, table[k][c]))
			}
		}
	}
	return table
}

// plainWorth answers what the column j is worth.
func plainWorth(p api.Prog, j int) *big.Rat {
	if j < len(p.Costs) {
		return big.NewRat(p.Costs[j], 1)
	}
	return new(big.Rat)
}

// plainComesIn answers the first column by which more is won than what the columns at give up for it are worth, -1 if there is none.
func plainComesIn(p api.Prog, at []int, table [][]*big.Rat) int {
	for j := range len(p.Costs) + len(p.Rows) {
		gain := plainWorth(p, j)
		for k := range at {
			gain.Sub(gain, new(big.Rat).Mul(plainWorth(p, at[k]), table[k][j]))
		}
		if gain.Sign() > 0 {
			return j
		}
	}
	return -1
}

// plainNext is E1 by elimination, of a program and columns that may be.
func plainNext(p api.Prog, at []int) ([]int, int, api.Errno) {
	table := plainReduced(p, at)
	if table == nil {
		return nil, 0, api.ErrNone
	}
	most := len(table[0]) - 1
	for _, line := range table {
		if line[most].Sign() < 0 {
			return nil, 0, api.ErrRange
		}
	}
	in := plainComesIn(p, at, table)
	if in < 0 {
		return nil, api.Best, api.OK
	}
	out, least := -1, new(big.Rat)
	for k, line := range table {
		if line[in].Sign() <= 0 {
			continue
		}
		if reach := new(big.Rat).Quo(line[most], line[in]); out < 0 || reach.Cmp(least) < 0 {
			out, least = k, reach
		}
	}
	if out < 0 {
		return nil, api.Endless, api.OK
	}
	var next []int
	for j := range most {
		if j == in || j != at[out] && slices.Contains(at, j) {
			next = append(next, j)
		}
	}
	return next, 0, api.OK
}

// checkNext holds Next to plainNext, and answers what it told.
func checkNext(t *testing.T, p api.Prog, at []int) ([]int, int, api.Errno) {
	t.Helper()
	got, kind, wrong := Next(p, at)
	want, wantKind, wantWrong := plainNext(p, at)
	if !slices.Equal(got, want) || kind != wantKind || wrong != wantWrong {
		t.Error(p, at, "got", got, kind, wrong, "want", want, wantKind, wantWrong)
	}
	return got, kind, wrong
}

// step is what Next tells of columns.
type step struct {
	p    api.Prog
	at   []int
	next []int
	kind int
}

func checkSteps(t *testing.T, steps []step) {
	t.Helper()
	for _, s := range steps {
		got, kind, wrong := checkNext(t, s.p, s.at)
		if !slices.Equal(got, s.next) || kind != s.kind || wrong != api.OK {
			t.Error(s.p, s.at, "got", got, kind, wrong)
		}
	}
}

func TestE1Steps(t *testing.T) {
	p := prog([]int64{3, 2}, []int64{1, 1, 4}, []int64{1, 3, 6})
	checkSteps(t, []step{
		{p, []int{2, 3}, []int{0, 3}, 0},
		{p, []int{0, 3}, nil, api.Best},
		// A row comes in.
		{p, []int{0, 1}, []int{0, 3}, 0},
		// What comes in has a lesser number than what stays, and the other way round.
		{p, []int{1, 2}, []int{0, 1}, 0},
		{prog([]int64{-1, 1}, []int64{1, 1, 4}, []int64{1, 3, 6}), []int{0, 3}, []int{0, 1}, 0},
		{prog([]int64{-1, 1}, []int64{1, 1, 4}, []int64{1, 3, 12}), []int{0, 3}, []int{1, 3}, 0},
		{prog([]int64{0, 1}, []int64{1, 0, 4}, []int64{0, 1, 6}), []int{0, 3}, []int{0, 1}, 0},
		{prog([]int64{-1, 0, 0}, []int64{1, 0, 0, 4}, []int64{0, 1, 1, 6}), []int{0, 2}, []int{2, 3}, 0},
	})
}

// TestE1ComesIn has several columns that might come in: the first one does, whatever the others would win.
func TestE1ComesIn(t *testing.T) {
	one := func(costs ...int64) api.Prog { return prog(costs, []int64{1, 1, 1, 5}) }
	checkSteps(t, []step{
		{one(1, 2, 400), []int{3}, []int{0}, 0},
		{one(0, 1, 400), []int{3}, []int{1}, 0},
		{one(-400, 0, 1), []int{3}, []int{2}, 0},
		{one(1, 1, 1), []int{3}, []int{0}, 0},
		{one(2, 3, 4), []int{0}, []int{1}, 0},
		{one(2, 2, 4), []int{0}, []int{2}, 0},
		{one(4, 2, 4), []int{0}, nil, api.Best},
		{one(4, 2, 4), []int{2}, nil, api.Best},
		{one(-1, -1, -1), []int{0}, []int{3}, 0},
		{one(-2, -1, -1), []int{0}, []int{1}, 0},
		// The gain alone counts: here it wins nothing, or leads on without end, where a later one would win.
		{prog([]int64{1, 400}, []int64{1, 0, 0}, []int64{0, 1, 12}), []int{2, 3}, []int{0, 3}, 0},
		{prog([]int64{1, 400}, []int64{-1, 1, 12}), []int{2}, nil, api.Endless},
		{prog([]int64{400, 1}, []int64{1, -1, 12}), []int{2}, []int{0}, 0},
	})
}

// TestE1GoesOut has several columns that come to 0: the one that is first there goes out, and of those that are there at once the first one.
func TestE1GoesOut(t *testing.T) {
	checkSteps(t, []step{
		{prog([]int64{1}, []int64{1, 3}, []int64{1, 2}, []int64{1, 4}), []int{1, 2, 3}, []int{0, 1, 3}, 0},
		// What falls fastest is not first there, nor what is least.
		{prog([]int64{1}, []int64{12, 12}, []int64{1, 2}, []int64{8, 7}), []int{1, 2, 3}, []int{0, 1, 2}, 0},
		{prog([]int64{1}, []int64{1, 2}, []int64{5, 9}), []int{1, 2}, []int{0, 1}, 0},
		{prog([]int64{1}, []int64{5, 9}, []int64{1, 2}), []int{1, 2}, []int{0, 2}, 0},
		// Several at once.
		{prog([]int64{1}, []int64{1, 2}, []int64{2, 4}, []int64{3, 6}), []int{1, 2, 3}, []int{0, 2, 3}, 0},
		{prog([]int64{1}, []int64{3, 6}, []int64{2, 4}, []int64{1, 2}), []int{1, 2, 3}, []int{0, 2, 3}, 0},
		{prog([]int64{1}, []int64{1, 3}, []int64{2, 4}, []int64{3, 6}), []int{1, 2, 3}, []int{0, 1, 3}, 0},
		{prog([]int64{1, 1}, []int64{1, 1, 4}, []int64{1, 0, 2}, []int64{0, 1, 2}), []int{0, 2, 4}, []int{0, 1, 4}, 0},
		// What is 0 and falls is there at once, before all others; what is 0 and does not is not.
		{prog([]int64{1}, []int64{1, 1}, []int64{1, 0}), []int{1, 2}, []int{0, 1}, 0},
		{prog([]int64{1}, []int64{12, 0}, []int64{1, 0}, []int64{5, 0}), []int{1, 2, 3}, []int{0, 2, 3}, 0},
		{prog([]int64{1}, []int64{-1, 0}, []int64{0, 0}, []int64{1, 9}), []int{1, 2, 3}, []int{0, 1, 2}, 0},
		// Fractions that are all but the same.
		{prog([]int64{1}, []int64{12, 11}, []int64{11, 10}), []int{1, 2}, []int{0, 1}, 0},
		{prog([]int64{1}, []int64{11, 10}, []int64{12, 11}), []int{1, 2}, []int{0, 2}, 0},
	})
}

func TestE1Ends(t *testing.T) {
	checkSteps(t, []step{
		// Best: nothing to win, or less than nothing.
		{prog([]int64{0}, []int64{1, 3}), []int{1}, nil, api.Best},
		{prog([]int64{0}, []int64{-1, 0}), []int{1}, nil, api.Best},
		{prog([]int64{-1, 0}, []int64{1, 1, 0}), []int{2}, nil, api.Best},
		{prog([]int64{400}, []int64{12, 12}), []int{0}, nil, api.Best},
		{wide(4, 4), []int{0, 5, 6, 7}, nil, api.Best},
		// Endless: nothing falls; what is 0 stays so, or grows.
		{prog([]int64{1}, []int64{-1, 2}), []int{1}, nil, api.Endless},
		{prog([]int64{1}, []int64{0, 0}), []int{1}, nil, api.Endless},
		{prog([]int64{1}, []int64{-12, 0}, []int64{0, 12}), []int{1, 2}, nil, api.Endless},
		{prog([]int64{2, -1}, []int64{1, -1, 3}), []int{0}, nil, api.Endless},
		{prog([]int64{-1}, []int64{-1, -2}), []int{0}, nil, api.Best},
		{prog([]int64{1}, []int64{-1, -2}), []int{0}, nil, api.Endless},
	})
}

// TestE1AllOfOneRow goes through small programs of one row, at each column.
func TestE1AllOfOneRow(t *testing.T) {
	seen := map[string]int{}
	for code := range 5 * 5 * 5 * 5 * 3 {
		p := prog([]int64{int64(code%5) - 2, int64(code/5%5) - 2}, []int64{int64(code/25%5) - 2, int64(code/125%5) - 2, int64(code/625) - 1})
		for _, at := range allOf(p) {
			_, kind, wrong := checkNext(t, p, at)
			seen[fmt.Sprint(kind, wrong)]++
		}
	}
	if len(seen) != 5 {
		t.Error("not all was tried", seen)
	}
}

// TestE1AllSizes goes through all columns of programs of all sizes.
func TestE1AllSizes(t *testing.T) {
	seen := map[string]int{}
	for _, p := range programs(1, 6) {
		for _, at := range allOf(p) {
			_, kind, wrong := checkNext(t, p, at)
			seen[fmt.Sprint(kind, wrong)]++
		}
	}
	for _, what := range []string{"0 0", "1 0", "2 0", "0 3", "0 4"} {
		if seen[what] < 100 {
			t.Error("not all was tried", seen)
		}
	}
}

// TestE1GreatestNumbers has the programs whose volumes are the greatest, so that the numbers of the corners are, too.
func TestE1GreatestNumbers(t *testing.T) {
	signs := [][]int64{{1, 1, 1, 1}, {1, -1, 1, -1}, {1, 1, -1, -1}, {1, -1, -1, 1}}
	for code := range 256 {
		p := wide(4, 4)
		for i := range 4 {
			p.Rows[i].Most = 12 - int64(code>>i&1)*23
			p.Costs[i] = 400 - int64(code>>(i+4)&1)*799
			for j := range 4 {
				p.Rows[i].Of[j] = 12 * signs[i][j]
			}
		}
		p.Rows[3].Of[3], p.Rows[2].Of[1] = 11, -11
		for _, at := range allOf(p) {
			checkNext(t, p, at)
		}
	}
}

// checkWrong holds Next and Walk to an error, and to nothing beside it.
func checkWrong(t *testing.T, p api.Prog, at []int, want api.Errno) {
	t.Helper()
	if next, kind, wrong := Next(p, at); wrong != want || len(next) != 0 || kind != 0 {
		t.Error("Next", p, at, next, kind, wrong)
	}
	if passed, kind, wrong := Walk(p, at); wrong != want || len(passed) != 0 || kind != 0 {
		t.Error("Walk", p, at, passed, kind, wrong)
	}
}

func TestE1E2WrongPrograms(t *testing.T) {
	for _, p := range []api.Prog{
		{}, {Costs: []int64{1}}, {Rows: []api.Row{{}}}, {Rows: []api.Row{{Most: 1}, {}}},
		prog([]int64{1}, []int64{1}), prog([]int64{1}, []int64{1, 1, 1}), prog([]int64{1, 1}, []int64{1, 1, 1}, []int64{1, 1}),
		wide(5, 1), wide(1, 5), wide(5, 5), wide(0, 1), wide(1, 0), wide(1000, 1000),
		prog([]int64{401}, []int64{1, 1}), prog([]int64{-401}, []int64{1, 1}), prog([]int64{1}, []int64{13, 1}), prog([]int64{1}, []int64{-13, 1}),
		prog([]int64{1}, []int64{1, 13}), prog([]int64{1}, []int64{1, -13}), prog([]int64{math.MinInt64}, []int64{math.MinInt64, math.MinInt64}),
	} {
		for _, at := range [][]int{nil, {}, {0}, {1}, {0, 1}, {1, 1}, {-1}, {0, 1, 2, 3, 4}, {math.MinInt}, {math.MaxInt}, rowsOf(p)} {
			checkWrong(t, p, at, api.ErrForm)
		}
	}
}

func TestE1E2WrongColumns(t *testing.T) {
	p := prog([]int64{3, 2}, []int64{1, 1, 4}, []int64{1, 3, 6})
	for _, at := range [][]int{
		nil, {}, {0}, {3}, {0, 1, 2}, {0, 1, 2, 3}, {1, 1}, {0, 0}, {3, 3}, {1, 0}, {3, 2}, {3, 0},
		{-1, 0}, {-1, 3}, {0, 4}, {3, 4}, {4, 5}, {0, -1}, {-2, -1}, {2, 3, 3}, make([]int, 1000),
		{math.MinInt, 0}, {0, math.MaxInt}, {math.MinInt, math.MaxInt}, {math.MaxInt, math.MinInt}, {math.MaxInt - 1, math.MaxInt}, {1 << 32, 1<<32 + 1}, {2, 1<<32 + 3},
	} {
		checkWrong(t, p, at, api.ErrRange)
	}
}

// TestE1E2WrongCorners has columns that make no corner, or one with a column below 0, be it a row or a variable.
func TestE1E2WrongCorners(t *testing.T) {
	p := prog([]int64{3, 2}, []int64{1, 1, 4}, []int64{1, 3, 6})
	checkWrong(t, p, []int{0, 2}, api.ErrRange)
	checkWrong(t, p, []int{1, 3}, api.ErrRange)
	checkWrong(t, prog([]int64{1}, []int64{1, -2}), []int{1}, api.ErrRange)
	checkWrong(t, prog([]int64{1}, []int64{1, -2}), []int{0}, api.ErrRange)
	checkWrong(t, prog([]int64{1}, []int64{-12, 1}), []int{0}, api.ErrRange)
	checkWrong(t, prog([]int64{-1}, []int64{-12, 1}), []int{0}, api.ErrRange)
	checkWrong(t, prog([]int64{1, 1}, []int64{1, 2, 3}, []int64{2, 4, 6}), []int{0, 1}, api.ErrNone)
	checkWrong(t, prog([]int64{1}, []int64{0, 5}), []int{0}, api.ErrNone)
	checkWrong(t, wide(4, 4), []int{0, 1, 2, 3}, api.ErrNone)
}

// TestE1E2FirstThatApplies has two things wrong at once, or one that would also be an end.
func TestE1E2FirstThatApplies(t *testing.T) {
	checkWrong(t, prog([]int64{401}, []int64{0, -1}), []int{0}, api.ErrForm)
	checkWrong(t, prog([]int64{401}, []int64{1, -1}), []int{1}, api.ErrForm)
	checkWrong(t, prog([]int64{401}, []int64{1, 1}), []int{7}, api.ErrForm)
	checkWrong(t, prog([]int64{1, 1}, []int64{0, 0, -1}), []int{0}, api.ErrNone)
	checkWrong(t, prog([]int64{1, 1}, []int64{0, 0, -1}), []int{0, 1}, api.ErrRange)
	// No gain is above 0, or nothing falls, but a column is below 0.
	checkWrong(t, prog([]int64{-1}, []int64{1, -1}), []int{1}, api.ErrRange)
	checkWrong(t, prog([]int64{1}, []int64{-1, -1}), []int{1}, api.ErrRange)
	checkWrong(t, prog([]int64{1}, []int64{1, 5}, []int64{0, -1}), []int{0, 2}, api.ErrRange)
}

// TestFallsAndComesIn has what other packages ask of a corner, also where there is none.
func TestFallsAndComesIn(t *testing.T) {
	p := prog([]int64{3, 2}, []int64{1, 1, 4}, []int64{1, 3, 6})
	for in, want := range []string{"{[1 0 0 0] 1}", "{[0 1 0 0] 1}", "{[3 -1 0 0] 2}", "{[-1 1 0 0] 2}"} {
		if got := Falls(p, []int{0, 1}, in); fmt.Sprint(got) != want {
			t.Error(in, got, want)
		}
	}
	for _, at := range [][]int{nil, {0}, {1, 0}, {0, 4}, {-1, math.MaxInt}} {
		if got := Falls(p, at, 0); len(got.Nums) != 0 || got.Den != 0 {
			t.Error(at, got)
		}
	}
	for _, in := range []int{-1, 4, math.MinInt, math.MaxInt} {
		if got := Falls(p, []int{0, 1}, in); fmt.Sprint(got) != "{[0 0 0 0] 1}" {
			t.Error(in, got)
		}
	}
	for want, gains := range [][]int64{{1, 0, 1}, {0, 2, 1}, {-1, 0, 1}} {
		if got := ComesIn(api.Corner{Gain: api.Point{Nums: gains, Den: 1}}); got != want {
			t.Error(gains, got)
		}
	}
	if ComesIn(api.Corner{}) != -1 || ComesIn(api.Corner{Gain: api.Point{Nums: []int64{0, -1}, Den: 1}}) != -1 {
		t.Error("comes in where nothing is won")
	}
}

// longWalk answers a program with a walk of eleven corners, and these.
func longWalk() (api.Prog, [][]int) {
	p := prog([]int64{-5, 19, 22, 30}, []int64{-1, 4, 0, 3, 6}, []int64{-1, -3, 1, -4, 12}, []int64{2, 3, 1, 3, 7}, []int64{-1, 3, -3, 2, 4})
	return p, [][]int{
		{4, 5, 6, 7}, {1, 4, 5, 6}, {0, 1, 4, 5}, {0, 1, 2, 5}, {0, 1, 3, 5}, {1, 3, 5, 6},
		{3, 5, 6, 7}, {0, 3, 5, 7}, {2, 3, 5, 7}, {1, 2, 5, 7}, {2, 4, 5, 7},
	}
}

func TestE2Walks(t *testing.T) {
	p := prog([]int64{3, 2}, []int64{1, 1, 4}, []int64{1, 3, 6})
	long, all := longWalk()
	for _, c := range []struct {
		p    api.Prog
		want [][]int
		kind int
	}{
		{p, [][]int{{2, 3}, {0, 3}}, api.Best},
		{p, [][]int{{1, 2}, {0, 1}, {0, 3}}, api.Best},
		// No step at all: the first columns are the last ones.
		{p, [][]int{{0, 3}}, api.Best},
		{prog([]int64{0}, []int64{1, 3}), [][]int{{1}}, api.Best},
		{prog([]int64{1}, []int64{-1, 2}), [][]int{{1}}, api.Endless},
		// Endless behind some steps.
		{prog([]int64{1, 1}, []int64{1, -1, 2}), [][]int{{2}, {0}}, api.Endless},
		{prog([]int64{1, 1}, []int64{1, -1, 0}, []int64{-1, -1, 0}), [][]int{{2, 3}, {0, 3}}, api.Endless},
		{long, all, api.Best},
		{long, all[4:], api.Best},
	} {
		if got, kind, wrong := Walk(c.p, c.want[0]); wrong != api.OK || kind != c.kind || fmt.Sprint(got) != fmt.Sprint(c.want) {
			t.Error(c.p, "got", got, kind, wrong, "want", c.want, c.kind)
		}
	}
}

// checkWalk holds Walk to E2, by plainNext, and answers what it told; nothing, where there is no walk.
func checkWalk(t *testing.T, p api.Prog, at []int) ([][]int, int) {
	t.Helper()
	passed, kind, wrong := Walk(p, at)
	next, wantKind, want := plainNext(p, at)
	if want != api.OK {
		if wrong != want || len(passed) != 0 || kind != 0 {
			t.Error(p, at, passed, kind, wrong)
		}
		return nil, 0
	}
	here := at
	for i, columns := range passed {
		if !slices.Equal(columns, here) {
			t.Error("step", i, p, at, passed)
		}
		next, wantKind, _ = plainNext(p, columns)
		if last := i == len(passed)-1; last != (len(next) == 0) {
			t.Error("ends at", i, p, at, passed)
		}
		here = next
	}
	if wrong != api.OK || len(passed) == 0 || kind != wantKind || kind == 0 {
		t.Error(p, at, passed, kind, wrong)
	}
	return passed, kind
}

// checkSafe holds a walk to E3: no columns twice, worth that never falls, and corners that go.
func checkSafe(t *testing.T, p api.Prog, passed [][]int) {
	t.Helper()
	seen := map[string]int{}
	var before api.Frac
	for i, at := range passed {
		seen[fmt.Sprint(at)]++
		c, wrong := corner.Look(p, at)
		if wrong != api.OK || layout.Below(0, c.X.Nums...) {
			t.Error("no corner that goes:", p, at, wrong)
			return
		}
		x, _ := frac.Point(c.X.Nums[:len(p.Costs)], c.X.Den)
		worth, wrong := layout.Worth(p, x)
		if wrong != api.OK || !layout.Goes(p, x) {
			t.Error("does not go:", p, at, x, wrong)
		}
		if i > 0 && frac.Less(worth, before) {
			t.Error("falls:", p, passed, before, worth)
		}
		before = worth
	}
	if len(seen) != len(passed) {
		t.Error("comes twice:", p, passed)
	}
}

// checkLast holds the end of a walk to its kind: of Best the last corner proves it (D1); of Endless there is no Best.
func checkLast(t *testing.T, p api.Prog, passed [][]int, kind int) {
	t.Helper()
	for i, at := range passed {
		c, _ := corner.Look(p, at)
		x, _ := frac.Point(c.X.Nums[:len(p.Costs)], c.X.Den)
		worth, _ := layout.Worth(p, x)
		holds := proof.Holds(p, api.Answer{Kind: api.Best, X: x, Y: c.Y, Worth: worth})
		if holds != (kind == api.Best && i == len(passed)-1) {
			t.Error(p, passed, kind, "Best at", i, holds)
		}
	}
}

// TestE2E3AllSizes walks from all columns of programs of all sizes.
func TestE2E3AllSizes(t *testing.T) {
	ends, longest := [3]int{}, 0
	for _, p := range programs(2, 6) {
		kinds := map[int]int{}
		for _, at := range allOf(p) {
			passed, kind := checkWalk(t, p, at)
			if kind == 0 {
				continue
			}
			checkSafe(t, p, passed)
			checkLast(t, p, passed, kind)
			kinds[kind]++
			ends[kind]++
			longest = max(longest, len(passed))
		}
		if len(kinds) > 1 {
			t.Error("two kinds:", p, kinds)
		}
	}
	if ends[api.Best] < 1000 || ends[api.Endless] < 500 || longest < 6 {
		t.Error("not all was tried", ends, longest)
	}
}

// TestE3NeverComesBack has programs with many corners at 0, where walks by other rules come back: the first four do, if the last of several goes out, the fifth one, if the one that falls fastest does.
func TestE3NeverComesBack(t *testing.T) {
	for _, p := range []api.Prog{
		prog([]int64{-5, 1, 8}, []int64{2, 9, 6, 0}, []int64{10, 1, -1, 0}, []int64{3, -7, -5, 0}),
		prog([]int64{23, -6, 21, 27}, []int64{8, 0, 7, 4, 0}, []int64{6, 8, 6, -12, 0}, []int64{9, 2, -11, -5, 0}),
		prog([]int64{1, 7, 9, 29}, []int64{-1, 4, -7, -10, 0}, []int64{1, 8, 10, 9, 0}, []int64{1, -9, 11, 3, 0}, []int64{9, 2, -5, -6, 0}),
		prog([]int64{-4, 6, 9, -25}, []int64{2, 3, 1, -3, 0}, []int64{-1, 1, -3, -3, 0}, []int64{0, -4, -2, 0, 0}, []int64{4, 3, 0, -3, 0}),
		prog([]int64{-26, 8, 18, -22}, []int64{11, 11, 9, 12, 0}, []int64{10, -8, -8, 10, 0}, []int64{-2, 6, 7, 12, 0}, []int64{-2, 4, -1, 10, 0}),
		prog([]int64{10, -57, -9, -12}, []int64{1, -11, -5, 9, 0}, []int64{1, -3, -1, 1, 0}, []int64{1, 0, 0, 0, 1}),
		prog([]int64{3, -10, 2, -6}, []int64{1, -4, -4, 9, 0}, []int64{2, -6, -2, 3, 0}, []int64{0, 0, 1, 0, 1}),
	} {
		for _, at := range allOf(p) {
			if passed, kind := checkWalk(t, p, at); kind != 0 {
				checkSafe(t, p, passed)
				checkLast(t, p, passed, kind)
			}
		}
	}
}

// backed answers a list with more behind its length than it says.
func backed[T any](list []T, behind T) []T {
	return append(slices.Clone(list), behind)[:len(list)]
}

// TestE1E2NewMemory holds Next and Walk to P3: nothing is changed or kept, nothing behind a list is read or written, nothing is shared.
func TestE1E2NewMemory(t *testing.T) {
	p, all := longWalk()
	p.Costs, p.Rows = backed(p.Costs, 999), backed(p.Rows, api.Row{Most: 999})
	for i := range p.Rows {
		p.Rows[i].Of = backed(p.Rows[i].Of, 999)
	}
	at := backed(all[0], 999)
	given := func() string {
		text := fmt.Sprint(p.Costs[:5], p.Rows[:5], at[:5])
		for _, r := range p.Rows {
			text += fmt.Sprint(r.Of[:5])
		}
		return text
	}
	before := given()
	for range 2 {
		next, _, _ := Next(p, at)
		passed, _, _ := Walk(p, at)
		if fmt.Sprint(next) != fmt.Sprint(all[1]) || fmt.Sprint(passed) != fmt.Sprint(all) {
			t.Error("kept:", next, passed)
		}
		for n, list := range passed {
			whole := list[:cap(list)]
			for i := range whole {
				whole[i] = 100 + n
			}
		}
		for n, list := range passed {
			if slices.ContainsFunc(list, func(j int) bool { return j != 100+n }) {
				t.Error("shared:", n, passed)
			}
		}
		if fmt.Sprint(next) != fmt.Sprint(all[1]) {
			t.Error("shared:", next)
		}
		clear(next[:cap(next)])
		if given() != before {
			t.Error("changed:", before, given())
		}
	}
}
