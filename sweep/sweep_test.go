package sweep

import (
	"fmt"
	"math"
	"math/big"
	"slices"
	"testing"

	"cornerwalk/api"
	"cornerwalk/solve"
)

// prog answers a program of costs and of rows, the last number of each row being its Most.
func prog(costs []int64, rows ...[]int64) api.Prog {
	p := api.Prog{Costs: costs}
	for _, r := range rows {
		last := len(r) - 1
		p.Rows = append(p.Rows, api.Row{Of: r[:last:last], Most: r[last]})
	}
	return p
}

// wide answers a program of so many variables and rows, all its numbers being 1.
func wide(vars, rows int) api.Prog {
	p := api.Prog{Costs: slices.Repeat([]int64{1}, vars)}
	for range rows {
		p.Rows = append(p.Rows, api.Row{Of: slices.Repeat([]int64{1}, vars), Most: 1})
	}
	return p
}

// end answers the end at num divided by den, and open the one that is none.
func end(num, den int64) api.End { return api.End{At: api.Frac{Num: num, Den: den}} }

var open = api.End{Open: true}

// piece answers the piece from one end to the other of which Base and Slope are whole numbers.
func piece(from, to api.End, base, slope int64) api.Piece {
	return api.Piece{From: from, To: to, Base: api.Frac{Num: base, Den: 1}, Slope: api.Frac{Num: slope, Den: 1}}
}

// numbers answers a rule by which numbers from -limit to limit come, the same ones at each run.
func numbers(seed uint64) func(limit int64) int64 {
	return func(limit int64) int64 {
		seed = seed*6364136223846793005 + 1442695040888963407
		return int64(seed>>33)%(2*limit+1) - limit
	}
}

// list answers so many numbers that come by a rule.
func list(next func(int64) int64, many int, limit int64) []int64 {
	out := make([]int64, many)
	for i := range out {
		out[i] = next(limit)
	}
	return out
}

// mixed answers a program of numbers that come by a rule, from -entry to entry in its rows, which are at most from -most to most.
func mixed(next func(int64) int64, vars, rows int, cost, entry, most int64) api.Prog {
	p := api.Prog{Costs: list(next, vars, cost)}
	for range rows {
		p.Rows = append(p.Rows, api.Row{Of: list(next, vars, entry), Most: next(most)})
	}
	return p
}

// Plain checks: the chapter by its words, with the library's big fractions. No columns are asked for: the
// points at which as many bounds are met as there are variables, and the ways on which one can go on for
// ever, are found by elimination, and the most is looked for between all t's at which two points are worth the same.

func rat(n int64) *big.Rat { return big.NewRat(n, 1) }

func add(a, b *big.Rat) *big.Rat { return new(big.Rat).Add(a, b) }
func sub(a, b *big.Rat) *big.Rat { return new(big.Rat).Sub(a, b) }
func mul(a, b *big.Rat) *big.Rat { return new(big.Rat).Mul(a, b) }

// plainSum is what x comes to, each as often as of says.
func plainSum(of []int64, x []*big.Rat) *big.Rat {
	sum := new(big.Rat)
	for j, n := range of {
		sum = add(sum, mul(rat(n), x[j]))
	}
	return sum
}

// bound asks that the variables, each as often as of says, are at most most together.
type bound struct {
	of   []int64
	most int64
}

// bounds are those of p: no variable is below 0, and the rows; without what the rows are at most, if along is true, so that they are of ways.
func bounds(p api.Prog, along bool) []bound {
	var out []bound
	for j := range p.Costs {
		of := make([]int64, len(p.Costs))
		of[j] = -1
		out = append(out, bound{of, 0})
	}
	for _, r := range p.Rows {
		out = append(out, bound{r.Of, r.Most})
		if along {
			out[len(out)-1].most = 0
		}
	}
	return out
}

// plainMet answers the one x at which all bounds are met exactly; nil, if there is none, or several.
func plainMet(all []bound) []*big.Rat {
	many := len(all)
	var table [][]*big.Rat
	for _, b := range all {
		var l []*big.Rat
		for _, n := range b.of {
			l = append(l, rat(n))
		}
		table = append(table, append(l, rat(b.most)))
	}
	for k := range many {
		found := slices.IndexFunc(table[k:], func(l []*big.Rat) bool { return l[k].Sign() != 0 })
		if found < 0 {
			return nil
		}
		table[k], table[k+found] = table[k+found], table[k]
		by := new(big.Rat).Inv(table[k][k])
		for c := range table[k] {
			table[k][c] = mul(table[k][c], by)
		}
		for i := range table {
			if times := table[i][k]; i != k && times.Sign() != 0 {
				for c := range table[i] {
					table[i][c] = sub(table[i][c], mul(times, table[k][c]))
				}
			}
		}
	}
	var x []*big.Rat
	for k := range many {
		x = append(x, table[k][many])
	}
	return x
}

// choices answers all lists of so many of all.
func choices(all []bound, many int) [][]bound {
	if many == 0 {
		return [][]bound{{}}
	}
	var out [][]bound
	for i := range all {
		for _, rest := range choices(all[i+1:], many-1) {
			out = append(out, append([]bound{all[i]}, rest...))
		}
	}
	return out
}

// plainCorners answers all x that keep to all, and meet exactly as many of them as are needed beside those that are always met.
func plainCorners(all []bound, always ...bound) [][]*big.Rat {
	var out [][]*big.Rat
	for _, met := range choices(all, len(all[0].of)-len(always)) {
		x := plainMet(append(met, always...))
		if x == nil || slices.ContainsFunc(all, func(b bound) bool { return plainSum(b.of, x).Cmp(rat(b.most)) > 0 }) {
			continue
		}
		out = append(out, x)
	}
	return out
}

// plainLine is what a point is worth: base, and slope times t.
type plainLine struct{ base, slope *big.Rat }

func (l plainLine) at(t *big.Rat) *big.Rat { return add(l.base, mul(l.slope, t)) }

// plainLines answers what all x are worth, each line once.
func plainLines(p api.Prog, by []int64, all [][]*big.Rat) []plainLine {
	var out []plainLine
	for _, x := range all {
		l := plainLine{plainSum(p.Costs, x), plainSum(by, x)}
		if !slices.ContainsFunc(out, func(k plainLine) bool { return k.base.Cmp(l.base) == 0 && k.slope.Cmp(l.slope) == 0 }) {
			out = append(out, l)
		}
	}
	return out
}

// plainMost answers the greatest of all at t, of several the one with the least slope.
func plainMost(all []plainLine, t *big.Rat) plainLine {
	return slices.MaxFunc(all, func(a, b plainLine) int {
		if c := a.at(t).Cmp(b.at(t)); c != 0 {
			return c
		}
		return b.slope.Cmp(a.slope)
	})
}

// plainCuts answers, rising, all t at which two of all are the same, or one of ways is worth nothing.
func plainCuts(all, ways []plainLine) []*big.Rat {
	var out []*big.Rat
	zero := func(l plainLine) {
		if l.slope.Sign() != 0 {
			out = append(out, new(big.Rat).Neg(new(big.Rat).Quo(l.base, l.slope)))
		}
	}
	for i, a := range all {
		for _, b := range all[:i] {
			zero(plainLine{sub(a.base, b.base), sub(a.slope, b.slope)})
		}
	}
	for _, w := range ways {
		zero(w)
	}
	slices.SortFunc(out, (*big.Rat).Cmp)
	return slices.CompactFunc(out, func(a, b *big.Rat) bool { return a.Cmp(b) == 0 })
}

// is answers q as a fraction, and at the end there.
func is(q *big.Rat) api.Frac { return api.Frac{Num: q.Num().Int64(), Den: q.Denom().Int64()} }
func at(q *big.Rat) api.End  { return api.End{At: is(q)} }

// plainSweep is H1, of a program that may be, and by of the right size.
func plainSweep(p api.Prog, by []int64) ([]api.Piece, api.Errno) {
	all := plainLines(p, by, plainCorners(bounds(p, false)))
	if len(all) == 0 {
		return nil, api.ErrNone
	}
	ones := bound{slices.Repeat([]int64{1}, len(p.Costs)), 1}
	ways := plainLines(p, by, plainCorners(bounds(p, true), ones))
	within := func(t *big.Rat) bool {
		return !slices.ContainsFunc(ways, func(w plainLine) bool { return w.at(t).Sign() > 0 })
	}
	var out []api.Piece
	put := func(from, to api.End, t *big.Rat) {
		if !within(t) {
			return
		}
		l := plainMost(all, t)
		next := api.Piece{From: from, To: to, Base: is(l.base), Slope: is(l.slope)}
		if last := len(out) - 1; last >= 0 && out[last].Base == next.Base && out[last].Slope == next.Slope {
			out[last].To = to
		} else {
			out = append(out, next)
		}
	}
	cuts := plainCuts(all, ways)
	if len(cuts) == 0 {
		put(open, open, rat(0))
		return out, api.OK
	}
	put(open, at(cuts[0]), sub(cuts[0], rat(1)))
	for i := range len(cuts) - 1 {
		put(at(cuts[i]), at(cuts[i+1]), mul(add(cuts[i], cuts[i+1]), big.NewRat(1, 2)))
	}
	last := cuts[len(cuts)-1]
	put(at(last), open, add(last, rat(1)))
	for i := 0; i < len(cuts) && len(out) == 0; i++ { // at most one t alone
		put(at(cuts[i]), at(cuts[i]), cuts[i])
	}
	return out, api.OK
}

// seen counts what has been answered, by its kind.
type seen map[string]int

func (s seen) put(l []api.Piece, wrong api.Errno) {
	switch {
	case wrong != api.OK:
		s["nothing goes"]++
	case len(l) == 0:
		s["never a most"]++
	case len(l) == 1 && !l[0].From.Open && l[0].From == l[0].To:
		s["one t alone"]++
	default:
		s[fmt.Sprint("open ", l[0].From.Open, l[len(l)-1].To.Open)]++
		s[fmt.Sprint("pieces ", min(len(l), 4))]++
	}
}

// checkMany asks that all that may be answered was, often.
func (s seen) checkMany(t *testing.T, least int) {
	t.Helper()
	for _, key := range []string{"nothing goes", "never a most", "one t alone", "open true true", "open true false", "open false true", "open false false", "pieces 1", "pieces 2", "pieces 3", "pieces 4"} {
		if s[key] < least {
			t.Error("seldom:", key, s)
		}
	}
}

// check holds Sweep to the plain way, and answers what it told.
func check(t *testing.T, p api.Prog, by []int64, got seen) []api.Piece {
	t.Helper()
	l, wrong := Sweep(p, by)
	got.put(l, wrong)
	if want, wantWrong := plainSweep(p, by); wrong != wantWrong || !slices.Equal(l, want) {
		t.Error(p, by, "got", l, wrong, "not", want, wantWrong)
	}
	return l
}

// asked is one call, and what it is to answer.
type asked struct {
	p    api.Prog
	by   []int64
	want []api.Piece
}

// checkAsked holds Sweep to what is written, and to the plain way.
func checkAsked(t *testing.T, all ...asked) {
	t.Helper()
	for _, a := range all {
		if l := check(t, a.p, a.by, seen{}); !slices.Equal(l, a.want) {
			t.Error(a.p, a.by, "got", l, "not", a.want)
		}
	}
}

var two = prog([]int64{3, 2}, []int64{1, 1, 4}, []int64{1, 3, 6})

func TestH1Example(t *testing.T) {
	checkAsked(t, asked{prog([]int64{1}, []int64{1, 3}), []int64{1}, []api.Piece{piece(open, end(-1, 1), 0, 0), piece(end(-1, 1), open, 3, 3)}})
}

func TestH1Pieces(t *testing.T) {
	checkAsked(t,
		asked{two, []int64{1, 0}, []api.Piece{piece(open, end(-7, 3), 4, 0), piece(end(-7, 3), end(-1, 1), 11, 3), piece(end(-1, 1), open, 12, 4)}},
		asked{two, []int64{-1, 0}, []api.Piece{piece(open, end(1, 1), 12, -4), piece(end(1, 1), end(7, 3), 11, -3), piece(end(7, 3), open, 4, 0)}},
		asked{two, []int64{1, 1}, []api.Piece{piece(open, end(-3, 1), 0, 0), piece(end(-3, 1), open, 12, 4)}},
		// The costs stay as they are: one line, though several corners have it.
		asked{two, []int64{0, 0}, []api.Piece{piece(open, open, 12, 0)}},
		asked{prog([]int64{1, 1}, []int64{1, 1, 4}), []int64{0, 0}, []api.Piece{piece(open, open, 4, 0)}},
		asked{prog([]int64{0}, []int64{1, 3}), []int64{0}, []api.Piece{piece(open, open, 0, 0)}},
		// Two corners have one line at all t, and the third one has it nowhere.
		asked{prog([]int64{1, 1}, []int64{1, 1, 4}), []int64{1, 1}, []api.Piece{piece(open, end(-1, 1), 0, 0), piece(end(-1, 1), open, 4, 4)}},
		// At one t three lines meet: the one in the middle is the most there alone, and is no piece.
		asked{prog([]int64{0, 0}, []int64{1, 0, 1}, []int64{0, 1, 1}), []int64{1, -1}, []api.Piece{piece(open, end(0, 1), 0, -1), piece(end(0, 1), open, 0, 1)}},
		// Nothing but 0 goes: one piece, whatever the costs.
		asked{prog([]int64{7, -7}, []int64{1, 1, 0}), []int64{400, -399}, []api.Piece{piece(open, open, 0, 0)}},
		asked{prog([]int64{1}, []int64{2, 3}), []int64{1}, []api.Piece{piece(open, end(-1, 1), 0, 0), {From: end(-1, 1), To: open, Base: api.Frac{Num: 3, Den: 2}, Slope: api.Frac{Num: 3, Den: 2}}}},
	)
}

// TestH1Ends has programs with t's at which there is no most.
func TestH1Ends(t *testing.T) {
	free := []int64{-1, -1, 2}
	checkAsked(t,
		asked{prog([]int64{1}, []int64{-1, 2}), []int64{1}, []api.Piece{piece(open, end(-1, 1), 0, 0)}},
		asked{prog([]int64{1}, []int64{-1, 2}), []int64{-1}, []api.Piece{piece(end(1, 1), open, 0, 0)}},
		// A least one of the variable is asked for, so that the piece has a slope.
		asked{prog([]int64{1}, []int64{-1, -2}), []int64{1}, []api.Piece{piece(open, end(-1, 1), 2, 2)}},
		asked{prog([]int64{1}, []int64{-1, -2}), []int64{-2}, []api.Piece{piece(end(1, 2), open, 2, -4)}},
		// Both ends.
		asked{prog([]int64{-1, -2}, free), []int64{1, -1}, []api.Piece{piece(end(-2, 1), end(1, 1), 0, 0)}},
		asked{prog([]int64{-1, -2}, []int64{-1, -1, -1}), []int64{1, -1}, []api.Piece{piece(end(-2, 1), end(-1, 2), -2, -1), piece(end(-1, 2), end(1, 1), -1, 1)}},
		// None: at each t one of the variables, or always the same one, is worth more than nothing.
		asked{prog([]int64{1}, []int64{-1, 2}), []int64{0}, nil},
		asked{prog([]int64{1, 0}, free), []int64{1, -1}, nil},
		asked{prog([]int64{1, -5}, free), []int64{0, 3}, nil},
	)
}

// TestH1OneT has programs with a most at one t alone, where several corners are best: the least Slope is told, with its Base.
func TestH1OneT(t *testing.T) {
	least := []int64{-1, -1, -1}
	checkAsked(t,
		asked{prog([]int64{0, 0}, least), []int64{1, -1}, []api.Piece{piece(end(0, 1), end(0, 1), 0, -1)}},
		asked{prog([]int64{0, 0}, least), []int64{-1, 1}, []api.Piece{piece(end(0, 1), end(0, 1), 0, -1)}},
		asked{prog([]int64{-3, 3}, least), []int64{1, -1}, []api.Piece{piece(end(3, 1), end(3, 1), 3, -1)}},
		asked{prog([]int64{3, -3}, least), []int64{2, -2}, []api.Piece{piece(end(-3, 2), end(-3, 2), -3, -2)}},
		asked{prog([]int64{-3, 3}, []int64{-1, -2, 0}), []int64{1, -1}, []api.Piece{piece(end(3, 1), end(3, 1), 0, 0)}},
		// A third corner goes and has a lower Slope, but is not best there.
		asked{prog([]int64{0, 0, -1}, []int64{-1, -1, -1, -1}), []int64{1, -1, -5}, []api.Piece{piece(end(0, 1), end(0, 1), 0, -1)}},
		asked{prog([]int64{0, 0, 0}, []int64{-1, -1, -1, -1}), []int64{1, -1, -5}, []api.Piece{piece(end(0, 1), end(0, 1), 0, -5)}},
		// A corner has a lower Slope, and would be best, but does not go.
		asked{prog([]int64{0, 0}, []int64{-1, -1, -1}, []int64{0, -1, -2}), []int64{1, -1}, []api.Piece{piece(end(0, 1), end(0, 1), 0, -2)}},
		// A line has one t alone, but the most has more.
		asked{prog([]int64{0, 0}, []int64{-1, -1, -1}, []int64{0, 1, 2}), []int64{1, 0}, []api.Piece{piece(open, end(0, 1), 0, 0)}},
	)
}

// TestH1AllOfOneRow goes through small programs of one row, and small by's.
func TestH1AllOfOneRow(t *testing.T) {
	got := seen{}
	for code := range 3 * 3 * 3 * 3 * 3 * 3 * 3 {
		n := make([]int64, 7)
		for i, rest := 0, code; i < 7; i, rest = i+1, rest/3 {
			n[i] = int64(rest%3) - 1
		}
		check(t, prog(n[:2:2], n[2:5:5]), n[5:], got)
	}
	for _, key := range []string{"nothing goes", "never a most", "one t alone", "open true true", "open true false", "open false true", "pieces 1", "pieces 2"} {
		if got[key] < 5 {
			t.Error("seldom:", key, got)
		}
	}
}

// TestH1AllSizes goes through all numbers of variables and rows, with numbers that are small (so that lines meet, and t's are alone), and great ones.
func TestH1AllSizes(t *testing.T) {
	next := numbers(8)
	got := seen{}
	for vars := 1; vars <= 4; vars++ {
		for rows := 1; rows <= 4; rows++ {
			for range 30 {
				check(t, mixed(next, vars, rows, 2, 1, 2), list(next, vars, 1), got)
				check(t, mixed(next, vars, rows, 3, 2, 1), list(next, vars, 2), got)
				check(t, mixed(next, vars, rows, 400, 12, 12), list(next, vars, 400), got)
			}
		}
	}
	got.checkMany(t, 5)
}

// TestH1ManyPieces has programs that go at 0, and whose rows end all ways, so that there are many corners.
func TestH1ManyPieces(t *testing.T) {
	next := numbers(88)
	for range 60 {
		p := mixed(next, 4, 4, 400, 5, 5)
		for i := range p.Rows {
			p.Rows[i].Most = 7 + p.Rows[i].Most
			for j := range p.Rows[i].Of {
				p.Rows[i].Of[j] += 6
			}
		}
		if l := check(t, p, list(next, 4, 400), seen{}); !l[0].From.Open || !l[len(l)-1].To.Open {
			t.Error(p, l)
		}
	}
}

// TestH1GreatestNumbers has the programs whose volumes are the greatest: 16 times 12 to the fourth.
func TestH1GreatestNumbers(t *testing.T) {
	signs := [][]int64{{1, 1, 1, 1}, {1, -1, 1, -1}, {1, 1, -1, -1}, {1, -1, -1, 1}}
	for most := range 16 {
		for step := range 4 {
			by := (most + 5*step) % 16
			p, costs := wide(4, 4), make([]int64, 4)
			for i := range 4 {
				p.Rows[i].Most = 12 - int64(most>>i&1)*24
				p.Costs[i] = 400 - int64(by>>i&1)*799
				costs[i] = 399 - int64(most>>i&1)*799
				for j := range 4 {
					p.Rows[i].Of[j] = 12 * signs[i][j]
				}
			}
			check(t, p, costs, seen{})
			p.Rows[3].Of[3], p.Rows[2].Of[1] = 11, -11
			check(t, p, costs, seen{})
		}
	}
}

// value answers what the pieces tell of t, and false, if it is within none.
func value(l []api.Piece, t *big.Rat) (*big.Rat, bool) {
	for _, c := range l {
		whole := func(f api.Frac) *big.Rat { return big.NewRat(f.Num, f.Den) }
		if (c.From.Open || whole(c.From.At).Cmp(t) <= 0) && (c.To.Open || whole(c.To.At).Cmp(t) >= 0) {
			return add(whole(c.Base), mul(whole(c.Slope), t)), true
		}
	}
	return nil, false
}

// TestH2AsSolved holds the pieces to what Solve answers at single t's, num divided by den: the costs are taken den times.
func TestH2AsSolved(t *testing.T) {
	next := numbers(18)
	kinds := map[int]int{}
	for round := range 400 {
		vars, rows := 1+round%4, 1+round/4%4
		p, by := mixed(next, vars, rows, 3, 3, 3), list(next, vars, 3)
		l, wrong := Sweep(p, by)
		for range 20 {
			num, den := next(40), 1+max(next(7), 0)
			at := api.Prog{Costs: make([]int64, vars), Rows: p.Rows}
			for j := range by {
				at.Costs[j] = den*p.Costs[j] + num*by[j]
			}
			a, _ := solve.Solve(at)
			kinds[a.Kind]++
			if (wrong == api.ErrNone) != (a.Kind == api.Nothing) {
				t.Error(p, by, wrong, a)
			}
			told, within := value(l, big.NewRat(num, den))
			if within != (a.Kind == api.Best) {
				t.Error(p, by, num, den, l, a)
			} else if within && mul(told, rat(den)).Cmp(big.NewRat(a.Worth.Num, a.Worth.Den)) != 0 {
				t.Error(p, by, num, den, told, l, a)
			}
		}
	}
	if kinds[api.Best] < 500 || kinds[api.Endless] < 500 || kinds[api.Nothing] < 500 {
		t.Error("seldom:", kinds)
	}
}

// checkWrong holds Sweep to an error, and to nothing beside it.
func checkWrong(t *testing.T, p api.Prog, by []int64, want api.Errno) {
	t.Helper()
	if l, wrong := Sweep(p, by); len(l) != 0 || wrong != want {
		t.Error(p, by, l, wrong)
	}
}

func TestH1WrongSizes(t *testing.T) {
	for _, p := range []api.Prog{wide(2, 3), wide(3, 2), wide(1, 1), wide(4, 4), two} {
		many := len(p.Costs)
		for n := range 8 {
			if n != many {
				checkWrong(t, p, make([]int64, n), api.ErrSize)
			}
		}
		checkWrong(t, p, nil, api.ErrSize)
		checkWrong(t, p, make([]int64, 1000), api.ErrSize)
		for i := range many {
			for _, n := range []int64{401, -401, math.MaxInt64, math.MinInt64, math.MinInt64 + 1, 1 << 32, -1 << 32} {
				by := make([]int64, many)
				by[i] = n
				checkWrong(t, p, by, api.ErrSize)
			}
			for _, n := range []int64{400, -400} {
				by := slices.Repeat([]int64{n}, many)
				by[i] = n / 2
				check(t, p, by, seen{})
			}
		}
	}
}

func TestH1WrongPrograms(t *testing.T) {
	for _, p := range []api.Prog{
		{}, {Costs: []int64{1}}, {Rows: []api.Row{{}}}, wide(5, 1), wide(1, 5), wide(0, 1), wide(1, 0), wide(1000, 1000),
		prog([]int64{1}, []int64{1}), prog([]int64{1}, []int64{1, 1, 1}), prog([]int64{1, 1}, []int64{1, 1, 1}, []int64{1, 1}),
		prog([]int64{401}, []int64{1, 1}), prog([]int64{-401}, []int64{1, 1}), prog([]int64{1}, []int64{13, 1}), prog([]int64{1}, []int64{1, -13}),
		prog([]int64{math.MinInt64}, []int64{math.MinInt64, math.MinInt64}),
	} {
		for _, by := range [][]int64{nil, {0}, {1, 1}, {500}, {math.MinInt64, math.MinInt64}, make([]int64, 5)} {
			checkWrong(t, p, by, api.ErrForm)
		}
	}
}

func TestH1NothingGoes(t *testing.T) {
	for _, p := range []api.Prog{
		prog([]int64{1}, []int64{1, -2}), prog([]int64{-1}, []int64{1, -2}), prog([]int64{1}, []int64{0, -1}),
		prog([]int64{1}, []int64{1, 1}, []int64{-1, -2}), prog([]int64{1, 1}, []int64{1, 1, 1}, []int64{-1, 0, -1}, []int64{0, -1, -1}),
	} {
		many := len(p.Costs)
		for _, n := range []int64{0, 1, -1, 400, -400} {
			checkWrong(t, p, slices.Repeat([]int64{n}, many), api.ErrNone)
		}
		// A size that is wrong comes ahead of it.
		checkWrong(t, p, slices.Repeat([]int64{401}, many), api.ErrSize)
		checkWrong(t, p, make([]int64, many+1), api.ErrSize)
		// And a form that is wrong ahead of both.
		p.Costs = slices.Repeat([]int64{401}, many)
		checkWrong(t, p, slices.Repeat([]int64{401}, many), api.ErrForm)
	}
}

// backed answers a list with more behind its length than it says.
func backed[T any](list []T, behind T) []T {
	return append(slices.Clone(list), behind)[:len(list)]
}

// TestH1KeepsAndChangesNothing holds Sweep to P3: nothing is changed or kept, nothing behind a list is read or written, and what is answered is new.
func TestH1KeepsAndChangesNothing(t *testing.T) {
	p := prog(backed([]int64{3, 2}, 999))
	p.Rows = backed([]api.Row{{Of: backed([]int64{1, 1}, 999), Most: 4}, {Of: backed([]int64{1, 3}, 999), Most: 6}}, api.Row{Most: 999})
	by := backed([]int64{1, 0}, 999)
	given := func() string {
		return fmt.Sprint(p.Costs[:3], p.Rows[:3], p.Rows[0].Of[:3], p.Rows[1].Of[:3], by[:3])
	}
	before := given()
	var told [][]api.Piece
	for range 20 {
		told = append(told, check(t, p, by, seen{}))
		if given() != before {
			t.Error("changed:", before, given())
		}
	}
	clear(told[0][:cap(told[0])])
	for _, l := range told[1:] {
		if !slices.Equal(l, told[1]) || l[0].From != open {
			t.Error("shared, or not the same:", l)
		}
	}
	by[0], p.Costs[1], p.Rows[1].Most = -3, 7, 1
	check(t, p, by, seen{})
	check(t, p, p.Costs, seen{})
}
