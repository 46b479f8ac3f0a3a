package span

import (
	"fmt"
	"math"
	"math/big"
	"slices"
	"testing"

	"cornerwalk/api"
)

// prog answers a program of costs and of rows, the last number of each row being its Most.
func prog(costs []int64, rows ...[]int64) api.Prog {
	p := api.Prog{Costs: costs}
	for _, r := range rows {
		last := len(r) - 1
		p.Rows = append(p.Rows, api.Row{Of: r[:last:last], Most: r[last]})
	}
	return p
}

// wide answers a program of so many variables and rows, all its numbers being 1.
func wide(vars, rows int) api.Prog {
	p := api.Prog{Costs: slices.Repeat([]int64{1}, vars)}
	for range rows {
		p.Rows = append(p.Rows, api.Row{Of: slices.Repeat([]int64{1}, vars), Most: 1})
	}
	return p
}

// end answers the end at num divided by den, and open the one that is none.
func end(num, den int64) api.End { return api.End{At: api.Frac{Num: num, Den: den}} }

var open = api.End{Open: true}

// choices answers all rising lists of so many numbers from 0 to below limit.
func choices(limit, many int) [][]int {
	if many == 0 {
		return [][]int{{}}
	}
	var out [][]int
	for last := many - 1; last < limit; last++ {
		for _, c := range choices(last, many-1) {
			out = append(out, append(c, last))
		}
	}
	return out
}

// allOf answers all choices of as many columns of p as it has rows.
func allOf(p api.Prog) [][]int { return choices(len(p.Costs)+len(p.Rows), len(p.Rows)) }

// numbers answers a rule by which numbers from -limit to limit come, the same ones at each run.
func numbers(seed uint64) func(limit int64) int64 {
	return func(limit int64) int64 {
		seed = seed*6364136223846793005 + 1442695040888963407
		return int64(seed>>33)%(2*limit+1) - limit
	}
}

// list answers so many numbers that come by a rule.
func list(next func(int64) int64, many int, limit int64) []int64 {
	out := make([]int64, many)
	for i := range out {
		out[i] = next(limit)
	}
	return out
}

// mixed answers a program of numbers that come by a rule, from -entry to entry in its rows.
func mixed(next func(int64) int64, vars, rows int, cost, entry int64) api.Prog {
	p := api.Prog{Costs: list(next, vars, cost)}
	for range rows {
		p.Rows = append(p.Rows, api.Row{Of: list(next, vars, entry), Most: next(entry)})
	}
	return p
}

// Plain checks: the chapter by its words, at single t's, by elimination with the library's big fractions.

func rat(n int64) *big.Rat { return big.NewRat(n, 1) }

// moved answers n and t times by together.
func moved(n, by int64, t *big.Rat) *big.Rat {
	return new(big.Rat).Add(rat(n), new(big.Rat).Mul(rat(by), t))
}

// plainTable has, of each row, what all columns have in it.
func plainTable(p api.Prog) [][]*big.Rat {
	var table [][]*big.Rat
	for i, r := range p.Rows {
		var line []*big.Rat
		for _, n := range r.Of {
			line = append(line, rat(n))
		}
		for k := range p.Rows {
			line = append(line, new(big.Rat))
			if k == i {
				line[len(line)-1].SetInt64(1)
			}
		}
		table = append(table, line)
	}
	return table
}

// plainReduced makes of rows, by adding them to one another, such ones in which the columns at have 1 in one each, and 0 in others; false, if it cannot.
func plainReduced(table [][]*big.Rat, at []int) bool {
	for k, j := range at {
		found := slices.IndexFunc(table[k:], func(l []*big.Rat) bool { return l[j].Sign() != 0 })
		if found < 0 {
			return false
		}
		table[k], table[k+found] = table[k+found], table[k]
		by := new(big.Rat).Inv(table[k][j])
		for c := range table[k] {
			table[k][c] = new(big.Rat).Mul(table[k][c], by)
		}
		for i := range table {
			if i == k {
				continue
			}
			times := table[i][j]
			for c := range table[i] {
				table[i][c] = new(big.Rat).Sub(table[i][c], new(big.Rat).Mul(times, table[k][c]))
			}
		}
	}
	return true
}

// plainAt is what is not to be below 0 at t: of each column what it is (G2), or what it gains, with the other sign (G1).
type plainAt func(t *big.Rat) []*big.Rat

// plainX is G2's: the columns of the rows tell how the rows were added, and so what of their Mosts each column is.
func plainX(p api.Prog, at []int, by []int64) plainAt {
	table := plainTable(p)
	plainReduced(table, at)
	return func(t *big.Rat) []*big.Rat {
		var x []*big.Rat
		for _, line := range table {
			sum := new(big.Rat)
			for i, times := range line[len(p.Costs):] {
				sum.Add(sum, new(big.Rat).Mul(times, moved(p.Rows[i].Most, by[i], t)))
			}
			x = append(x, sum)
		}
		return x
	}
}

// plainLosses is G1's.
func plainLosses(p api.Prog, at []int, by []int64) plainAt {
	worth := func(j int, t *big.Rat) *big.Rat {
		if j < len(p.Costs) {
			return moved(p.Costs[j], by[j], t)
		}
		return new(big.Rat)
	}
	table := plainTable(p)
	plainReduced(table, at)
	return func(t *big.Rat) []*big.Rat {
		var losses []*big.Rat
		for j := range len(p.Costs) + len(p.Rows) {
			loss := new(big.Rat).Neg(worth(j, t))
			for k, line := range table {
				loss.Add(loss, new(big.Rat).Mul(line[j], worth(at[k], t)))
			}
			losses = append(losses, loss)
		}
		return losses
	}
}

// stays tells whether nothing is below 0 at t.
func (f plainAt) stays(t *big.Rat) bool {
	return !slices.ContainsFunc(f(t), func(n *big.Rat) bool { return n.Sign() < 0 })
}

// zeros answers, rising, all t at which one of them comes to 0 while it changes.
func (f plainAt) zeros() []*big.Rat {
	var out []*big.Rat
	at1 := f(rat(1))
	for j, n := range f(rat(0)) {
		if step := new(big.Rat).Sub(at1[j], n); step.Sign() != 0 {
			out = append(out, new(big.Rat).Neg(new(big.Rat).Quo(n, step)))
		}
	}
	slices.SortFunc(out, (*big.Rat).Cmp)
	return out
}

// is answers the end at t.
func is(t *big.Rat) api.End { return end(t.Num().Int64(), t.Denom().Int64()) }

// spanned answers what is asked for: where it stays is a span without gaps whose ends, if it has some, are zeros.
func (f plainAt) spanned() (api.End, api.End, api.Errno) {
	zeros := f.zeros()
	if len(zeros) == 0 {
		if f.stays(rat(0)) {
			return open, open, api.OK
		}
		return api.End{}, api.End{}, api.ErrNone
	}
	at := slices.DeleteFunc(slices.Clone(zeros), func(t *big.Rat) bool { return !f.stays(t) })
	if len(at) == 0 {
		return api.End{}, api.End{}, api.ErrNone
	}
	from, to := is(at[0]), is(at[len(at)-1])
	if f.stays(new(big.Rat).Sub(zeros[0], rat(1))) {
		from = open
	}
	if f.stays(new(big.Rat).Add(zeros[len(zeros)-1], rat(1))) {
		to = open
	}
	return from, to, api.OK
}

// seen counts what has been answered: of both ends whether they are open, and whether there is no span, or one of one t alone.
type seen map[string]int

func (s seen) put(from, to api.End, wrong api.Errno) {
	s[fmt.Sprint(from.Open, to.Open, wrong != api.OK)]++
	if wrong == api.OK && !from.Open && from == to {
		s["alone"]++
	}
}

// checkMany asks that all that may be answered was, often.
func (s seen) checkMany(t *testing.T, least int) {
	t.Helper()
	for _, key := range []string{"true true false", "true false false", "false true false", "false false false", "false false true", "alone"} {
		if s[key] < least {
			t.Error("seldom:", key, s)
		}
	}
}

// both are Costs and Mosts, each with how many numbers it is to be given, up to what limit, and the plain way.
var both = []struct {
	name  string
	call  func(api.Prog, []int, []int64) (api.End, api.End, api.Errno)
	many  func(api.Prog) int
	limit int64
	plain func(api.Prog, []int, []int64) plainAt
}{
	{"Costs", Costs, func(p api.Prog) int { return len(p.Costs) }, api.MaxCost, plainLosses},
	{"Mosts", Mosts, func(p api.Prog) int { return len(p.Rows) }, api.MaxEntry, plainX},
}

// check holds Costs (which 0) or Mosts (which 1) to the plain way.
func check(t *testing.T, which int, p api.Prog, at []int, by []int64, got seen) {
	t.Helper()
	b := both[which]
	from, to, wrong := b.call(p, at, by)
	if !plainReduced(plainTable(p), at) {
		if from != (api.End{}) || to != (api.End{}) || wrong != api.ErrNone {
			t.Error(b.name, "no corner", p, at, by, from, to, wrong)
		}
		return
	}
	got.put(from, to, wrong)
	wantFrom, wantTo, wantWrong := b.plain(p, at, by).spanned()
	if from != wantFrom || to != wantTo || wrong != wantWrong {
		t.Error(b.name, p, at, by, from, to, wrong, "not", wantFrom, wantTo, wantWrong)
	}
}

// asked is one call, and what it is to answer.
type asked struct {
	p        api.Prog
	at       []int
	by       []int64
	from, to api.End
	wrong    api.Errno
}

// checkAsked holds Costs or Mosts to what is written, and to the plain way.
func checkAsked(t *testing.T, which int, all []asked) {
	t.Helper()
	for _, a := range all {
		from, to, wrong := both[which].call(a.p, a.at, a.by)
		if from != a.from || to != a.to || wrong != a.wrong {
			t.Error(both[which].name, a.p, a.at, a.by, from, to, wrong)
		}
		check(t, which, a.p, a.at, a.by, seen{})
	}
}

var two = prog([]int64{3, 2}, []int64{1, 1, 4}, []int64{1, 3, 6})

func TestG1Example(t *testing.T) {
	checkAsked(t, 0, []asked{{prog([]int64{1}, []int64{1, 3}), []int{0}, []int64{1}, end(-1, 1), open, api.OK}})
}

func TestG1Spans(t *testing.T) {
	none := api.End{}
	checkAsked(t, 0, []asked{
		{two, []int{0, 3}, []int64{1, 0}, end(-1, 1), open, api.OK},
		{two, []int{0, 3}, []int64{0, 1}, open, end(1, 1), api.OK},
		{two, []int{0, 3}, []int64{0, 0}, open, open, api.OK},
		{two, []int{0, 3}, []int64{1, 1}, end(-3, 1), open, api.OK},
		{two, []int{0, 3}, []int64{1, 2}, end(-3, 1), end(1, 1), api.OK},
		{two, []int{0, 3}, []int64{-2, -5}, end(-1, 3), end(3, 2), api.OK},
		// A column is below 0 there; it is not asked about.
		{two, []int{0, 2}, []int64{1, 0}, end(-7, 3), open, api.OK},
		// Not now, but somewhere a gain above 0 is none any more.
		{two, []int{2, 3}, []int64{-1, -1}, end(3, 1), open, api.OK},
		{two, []int{2, 3}, []int64{1, 1}, open, end(-3, 1), api.OK},
		{two, []int{2, 3}, []int64{-2, -1}, end(2, 1), open, api.OK},
		// Where one is none any more, another one is one; or one is one at all t.
		{two, []int{2, 3}, []int64{-1, 1}, none, none, api.ErrNone},
		{two, []int{2, 3}, []int64{-1, 0}, none, none, api.ErrNone},
		{two, []int{2, 3}, []int64{0, -1}, none, none, api.ErrNone},
		{two, []int{2, 3}, []int64{0, 0}, none, none, api.ErrNone},
		// One t alone.
		{prog([]int64{0, 0}, []int64{1, 1, 1}), []int{2}, []int64{1, -1}, end(0, 1), end(0, 1), api.OK},
		{prog([]int64{3, -3}, []int64{1, 1, 1}), []int{2}, []int64{1, -1}, end(-3, 1), end(-3, 1), api.OK},
		{prog([]int64{3, -3}, []int64{1, 1, 1}), []int{2}, []int64{2, -2}, end(-3, 2), end(-3, 2), api.OK},
		{prog([]int64{3, -2}, []int64{1, 1, 1}), []int{2}, []int64{1, -1}, none, none, api.ErrNone},
		{prog([]int64{2, -3}, []int64{1, 1, 1}), []int{2}, []int64{1, -1}, end(-3, 1), end(-2, 1), api.OK},
	})
}

func TestG2Spans(t *testing.T) {
	none := api.End{}
	checkAsked(t, 1, []asked{
		{prog([]int64{1}, []int64{2, 3}), []int{0}, []int64{-2}, open, end(3, 2), api.OK},
		{two, []int{0, 1}, []int64{1, 0}, end(-2, 1), end(2, 1), api.OK},
		{two, []int{0, 1}, []int64{0, 1}, end(-2, 1), end(6, 1), api.OK},
		{two, []int{0, 1}, []int64{1, 1}, end(-3, 1), open, api.OK},
		{two, []int{0, 1}, []int64{-1, -1}, open, end(3, 1), api.OK},
		{two, []int{0, 1}, []int64{0, 0}, open, open, api.OK},
		// The gains are not asked about.
		{two, []int{2, 3}, []int64{3, -4}, end(-4, 3), end(3, 2), api.OK},
		// Not now, but somewhere none is below 0.
		{two, []int{0, 2}, []int64{1, 0}, end(2, 1), open, api.OK},
		{two, []int{0, 2}, []int64{0, 1}, end(-6, 1), end(-2, 1), api.OK},
		{two, []int{0, 2}, []int64{1, 3}, end(-2, 1), end(-1, 1), api.OK},
		// One t alone.
		{two, []int{0, 2}, []int64{-2, -3}, end(2, 1), end(2, 1), api.OK},
		// Where one is not below 0 any more, another one is; or one is at all t.
		{two, []int{0, 2}, []int64{-3, -4}, none, none, api.ErrNone},
		{two, []int{0, 2}, []int64{1, 1}, none, none, api.ErrNone},
		{two, []int{0, 2}, []int64{0, 0}, none, none, api.ErrNone},
	})
}

// TestG1G2AtZero has corners with a gain or a column that is 0, and so stays or not by which way it goes alone.
func TestG1G2AtZero(t *testing.T) {
	none := api.End{}
	level := prog([]int64{0}, []int64{1, 0})
	for which := range both {
		for _, b := range []struct {
			by       int64
			from, to api.End
		}{{1, end(0, 1), open}, {-1, open, end(0, 1)}, {0, open, open}} {
			checkAsked(t, which, []asked{{level, []int{0}, []int64{b.by}, b.from, b.to, api.OK}})
		}
	}
	// Of the row alone the gain grows with the cost; so it is the other way round.
	checkAsked(t, 0, []asked{
		{level, []int{1}, []int64{1}, open, end(0, 1), api.OK},
		{level, []int{1}, []int64{-1}, end(0, 1), open, api.OK},
		{prog([]int64{1, 0}, []int64{1, 1, 1}), []int{2}, []int64{0, 1}, none, none, api.ErrNone},
	})
}

// TestG1G2AllOfOneRow goes through small programs of one row, at each column, and small by's.
func TestG1G2AllOfOneRow(t *testing.T) {
	got := [2]seen{{}, {}}
	for code := range 3 * 3 * 3 * 3 * 3 * 3 * 3 {
		n := make([]int64, 7)
		for i, rest := 0, code; i < 7; i, rest = i+1, rest/3 {
			n[i] = int64(rest%3) - 1
		}
		p := prog(n[:2:2], n[2:5:5])
		for _, at := range allOf(p) {
			check(t, 0, p, at, n[5:], got[0])
			check(t, 1, p, at, n[5:6], got[1])
		}
	}
	got[0].checkMany(t, 10)
}

// TestG1G2AllSizes goes through all numbers of variables and rows, with numbers that are small (so that some are 0, and some t's alone), and great ones.
func TestG1G2AllSizes(t *testing.T) {
	next := numbers(7)
	for which, b := range both {
		got := seen{}
		for vars := 1; vars <= 4; vars++ {
			for rows := 1; rows <= 4; rows++ {
				for range 8 {
					small, great := mixed(next, vars, rows, 2, 1), mixed(next, vars, rows, 400, 12)
					for _, at := range allOf(small) {
						check(t, which, small, at, list(next, b.many(small), 1), got)
						check(t, which, great, at, list(next, b.many(great), b.limit), got)
					}
				}
			}
		}
		got.checkMany(t, 10)
	}
}

// TestG1G2GreatestNumbers has the programs whose volumes are the greatest: 16 times 12 to the fourth.
func TestG1G2GreatestNumbers(t *testing.T) {
	signs := [][]int64{{1, 1, 1, 1}, {1, -1, 1, -1}, {1, 1, -1, -1}, {1, -1, -1, 1}}
	for most := range 16 {
		for step := range 4 {
			by := (most + 5*step) % 16
			p, costs, mosts := wide(4, 4), make([]int64, 4), make([]int64, 4)
			for i := range 4 {
				p.Rows[i].Most = 12 - int64(most>>i&1)*24
				p.Costs[i] = 400 - int64(most>>i&1)*799
				mosts[i], costs[i] = 11-int64(by>>i&1)*23, 399-int64(by>>i&1)*799
				for j := range 4 {
					p.Rows[i].Of[j] = 12 * signs[i][j]
				}
			}
			p.Rows[3].Of[3], p.Rows[2].Of[1] = 11, -11
			for _, at := range allOf(p) {
				check(t, 0, p, at, costs, seen{})
				check(t, 1, p, at, mosts, seen{})
			}
		}
	}
}

// checkWrong holds Costs or Mosts to an error, and to nothing beside it.
func checkWrong(t *testing.T, which int, p api.Prog, at []int, by []int64, want api.Errno) {
	t.Helper()
	if from, to, wrong := both[which].call(p, at, by); from != (api.End{}) || to != (api.End{}) || wrong != want {
		t.Error(both[which].name, p, at, by, from, to, wrong)
	}
}

func TestG1G2WrongSizes(t *testing.T) {
	tall, flat := wide(2, 3), wide(3, 2)
	for which, b := range both {
		for _, p := range []api.Prog{tall, flat, two} {
			at := []int{len(p.Costs), len(p.Costs) + 1, len(p.Costs) + 2}[:len(p.Rows)]
			many := b.many(p)
			for n := range 8 {
				if n != many {
					checkWrong(t, which, p, at, make([]int64, n), api.ErrSize)
				}
			}
			checkWrong(t, which, p, at, nil, api.ErrSize)
			checkWrong(t, which, p, at, make([]int64, 1000), api.ErrSize)
			for i := range many {
				for _, n := range []int64{b.limit + 1, -b.limit - 1, math.MaxInt64, math.MinInt64, math.MinInt64 + 1, 1 << 32, -1 << 32} {
					by := make([]int64, many)
					by[i] = n
					checkWrong(t, which, p, at, by, api.ErrSize)
				}
				for _, n := range []int64{b.limit, -b.limit} {
					by := slices.Repeat([]int64{n}, many)
					by[i] = n / 2
					if _, _, wrong := b.call(p, at, by); wrong == api.ErrSize {
						t.Error(b.name, by)
					}
				}
			}
		}
	}
}

func TestG1G2WrongPrograms(t *testing.T) {
	for which := range both {
		for _, p := range []api.Prog{
			{}, {Costs: []int64{1}}, {Rows: []api.Row{{}}}, wide(5, 1), wide(1, 5), wide(0, 1), wide(1, 0), wide(1000, 1000),
			prog([]int64{1}, []int64{1}), prog([]int64{1}, []int64{1, 1, 1}), prog([]int64{1, 1}, []int64{1, 1, 1}, []int64{1, 1}),
			prog([]int64{401}, []int64{1, 1}), prog([]int64{-401}, []int64{1, 1}), prog([]int64{1}, []int64{13, 1}), prog([]int64{1}, []int64{1, -13}),
			prog([]int64{math.MinInt64}, []int64{math.MinInt64, math.MinInt64}),
		} {
			for _, at := range [][]int{nil, {0}, {1}, {0, 1}, {-1}, {math.MaxInt}} {
				for _, by := range [][]int64{nil, {0}, {1, 1}, {500}, {math.MinInt64, math.MinInt64}} {
					checkWrong(t, which, p, at, by, api.ErrForm)
				}
			}
		}
	}
}

func TestG1G2WrongColumns(t *testing.T) {
	for which := range both {
		for _, at := range [][]int{nil, {}, {0}, {0, 1, 2}, {1, 1}, {1, 0}, {-1, 0}, {0, 4}, {3, 4}, {math.MinInt, 0}, {0, math.MaxInt}, {0, 1<<32 + 1}} {
			checkWrong(t, which, two, at, []int64{0, 0}, api.ErrRange)
		}
	}
}

// TestG1G2FirstThatApplies has two things wrong at once.
func TestG1G2FirstThatApplies(t *testing.T) {
	for which := range both {
		checkWrong(t, which, prog([]int64{401}, []int64{0, 1}), []int{7}, nil, api.ErrForm)
		checkWrong(t, which, two, []int{1, 0}, nil, api.ErrRange)
		checkWrong(t, which, two, []int{1, 0}, []int64{500, 500}, api.ErrRange)
		// No corner is Look's error; so it comes ahead of the size.
		checkWrong(t, which, wide(2, 2), []int{0, 1}, nil, api.ErrNone)
		checkWrong(t, which, wide(2, 2), []int{0, 1}, []int64{500, 500}, api.ErrNone)
		checkWrong(t, which, wide(2, 2), []int{0, 1}, []int64{0, 0}, api.ErrNone)
	}
	// A size that is wrong comes ahead of a corner that stays nowhere.
	checkWrong(t, 0, two, []int{2, 3}, []int64{0}, api.ErrSize)
	checkWrong(t, 0, two, []int{2, 3}, []int64{0, 401}, api.ErrSize)
	checkWrong(t, 1, two, []int{0, 2}, []int64{0, 0, 0}, api.ErrSize)
	checkWrong(t, 1, two, []int{0, 2}, []int64{0, 13}, api.ErrSize)
}

// backed answers a list with more behind its length than it says.
func backed[T any](list []T, behind T) []T {
	return append(slices.Clone(list), behind)[:len(list)]
}

// TestG1G2KeepAndChangeNothing holds both to P3: nothing is changed or kept, and nothing behind a list is read or written.
func TestG1G2KeepAndChangeNothing(t *testing.T) {
	for which, b := range both {
		p := prog(backed([]int64{3, 2}, 999))
		p.Rows = backed([]api.Row{{Of: backed([]int64{1, 1}, 999), Most: 4}, {Of: backed([]int64{1, 3}, 999), Most: 6}}, api.Row{Most: 999})
		at, by := backed([]int{0, 3}, 999), backed([]int64{1, 2}, 999)
		given := func() string {
			return fmt.Sprint(p.Costs[:3], p.Rows[:3], p.Rows[0].Of[:3], p.Rows[1].Of[:3], at[:3], by[:3])
		}
		before := given()
		for range 2 {
			check(t, which, p, at, by, seen{})
			if given() != before {
				t.Error("changed:", b.name, before, given())
			}
		}
		by[0], p.Costs[1], p.Rows[1].Most = -3, 7, 1
		check(t, which, p, at, by, seen{})
		at[1] = 2
		check(t, which, p, at, by, seen{})
	}
}
