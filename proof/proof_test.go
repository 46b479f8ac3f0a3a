package proof

import (
	"fmt"
	"math"
	"math/big"
	"slices"
	"testing"

	"cornerwalk/api"
	"cornerwalk/corner"
	"cornerwalk/frac"
	"cornerwalk/layout"
)

const part = api.MaxPart

// prog answers a program of costs and of rows, the last number of each row being its Most.
func prog(costs []int64, rows ...[]int64) api.Prog {
	p := api.Prog{Costs: costs}
	for _, r := range rows {
		last := len(r) - 1
		p.Rows = append(p.Rows, api.Row{Of: r[:last:last], Most: r[last]})
	}
	return p
}

// point answers the point of nums divided by den, as it is told, also where it may not be.
func point(den int64, nums ...int64) api.Point { return api.Point{Nums: nums, Den: den} }

// quot answers the fraction as it is told, also where it may not be.
func quot(num, den int64) api.Frac { return api.Frac{Num: num, Den: den} }

func best(x, y api.Point, worth api.Frac) api.Answer {
	return api.Answer{Kind: api.Best, X: x, Y: y, Worth: worth}
}

func endless(x, ray api.Point) api.Answer { return api.Answer{Kind: api.Endless, X: x, Ray: ray} }

func nothing(y api.Point) api.Answer { return api.Answer{Kind: api.Nothing, Y: y} }

// wide answers a program of so many variables and rows, with the same cost everywhere, and the same numbers in each row.
func wide(vars, rows int, cost, entry, most int64) api.Prog {
	p := api.Prog{Costs: slices.Repeat([]int64{cost}, vars)}
	for range rows {
		p.Rows = append(p.Rows, api.Row{Of: slices.Repeat([]int64{entry}, vars), Most: most})
	}
	return p
}

// claim is an answer to a program.
type claim struct {
	p api.Prog
	a api.Answer
}

// holding answers claims that hold, of all kinds: ordinary ones, and the edges of what is asked.
func holding() []claim {
	two := prog([]int64{3, 2}, []int64{1, 1, 4}, []int64{1, 3, 6})
	return []claim{
		// Best: one corner, an edge of many points, nothing to win, a worth below 0, rows that are kept with no room.
		{prog([]int64{1}, []int64{2, 3}), best(point(2, 3), point(2, 1), quot(3, 2))},
		{two, best(point(1, 4, 0), point(1, 3, 0), quot(12, 1))},
		{prog([]int64{1, 1}, []int64{1, 1, 4}), best(point(2, 1, 7), point(1, 1), quot(4, 1))},
		{prog([]int64{1, 1}, []int64{1, 1, 4}), best(point(part/4, 1, part-1), point(1, 1), quot(4, 1))},
		{prog([]int64{0}, []int64{1, 0}), best(point(1, 0), point(1, 0), quot(0, 1))},
		{prog([]int64{0, 0}, []int64{-1, -1, -1}), best(point(part, part, 1), point(1, 0), quot(0, 1))},
		{prog([]int64{-2}, []int64{-4, -1}), best(point(4, 1), point(2, 1), quot(-1, 2))},
		{prog([]int64{5}, []int64{1, 0}, []int64{-1, 0}), best(point(1, 0), point(1, part, part-5), quot(0, 1))},
		{prog([]int64{-1}, []int64{12, 0}), best(point(1, 0), point(part, part-1), quot(0, 1))},
		{prog([]int64{-1}, []int64{-12, 0}), best(point(1, 0), point(part, part/12), quot(0, 1))},
		{wide(4, 4, 400, 12, 12), best(point(1, 0, 0, 1, 0), point(3, 25, 25, 25, 25), quot(400, 1))},
		{wide(4, 4, -400, -12, -12), best(point(4, 1, 1, 1, 1), point(3, 0, 100, 0, 0), quot(-400, 1))},
		// Endless: along one variable, between rows, from a point within, with the greatest numbers.
		{prog([]int64{1}, []int64{-1, 2}), endless(point(1, 0), point(1, 1))},
		{prog([]int64{1}, []int64{0, 0}), endless(point(1, part), point(1, part))},
		{prog([]int64{2, -1}, []int64{1, -1, 3}, []int64{-1, 0, 0}), endless(point(2, 7, 1), point(1, 1, 1))},
		{prog([]int64{2, -1}, []int64{1, -1, 3}, []int64{-1, 0, 0}), endless(point(1, 0, 0), point(1, part/2+1, part))},
		{prog([]int64{1, -399}, []int64{0, 0, 1}), endless(point(part, 1, 1), point(1, 400, 1))},
		{wide(4, 4, 400, -12, -12), endless(point(1, part, part, part, part), point(1, part, part, part, part))},
		{wide(4, 1, 400, 0, 12), endless(point(1, 0, 0, 0, 0), point(1, 0, 0, 0, 1))},
		// Nothing: one row alone, two against each other, with the greatest numbers.
		{prog([]int64{1}, []int64{1, -2}), nothing(point(1, 1))},
		{prog([]int64{0}, []int64{0, -1}), nothing(point(1, 1))},
		{prog([]int64{1, 1}, []int64{1, 2, 3}, []int64{-1, -2, -4}), nothing(point(1, 1, 1))},
		{prog([]int64{1, 1}, []int64{1, 2, 3}, []int64{-1, -2, -4}), nothing(point(1, part, part))},
		{prog([]int64{400}, []int64{3, 5}, []int64{-2, -4}), nothing(point(1, 2, 3))},
		{prog([]int64{400}, []int64{12, 12}, []int64{0, -12}), nothing(point(1, part-1, part))},
		{wide(4, 4, 1, 12, -12), nothing(point(1, part, part, part, part))},
	}
}

// plainSum is the sum of products by the library's big numbers.
func plainSum(a, b []int64) *big.Int {
	sum := new(big.Int)
	for i := range a {
		sum.Add(sum, mul(a[i], b[i]))
	}
	return sum
}

func mul(a, b int64) *big.Int { return new(big.Int).Mul(big.NewInt(a), big.NewInt(b)) }

// plainPoint tells whether x is a point (A1) of so many numbers, none below 0.
func plainPoint(x api.Point, many int) bool {
	if len(x.Nums) != many || x.Den < 1 || x.Den > part {
		return false
	}
	common := big.NewInt(x.Den)
	for _, n := range x.Nums {
		if n < 0 || n > part {
			return false
		}
		common.GCD(nil, nil, common, big.NewInt(n))
	}
	return common.Cmp(big.NewInt(1)) == 0
}

// plainKeeps tells whether in each row what x comes to is at most Most times so much.
func plainKeeps(p api.Prog, x api.Point, times int64) bool {
	for _, r := range p.Rows {
		if plainSum(r.Of, x.Nums).Cmp(mul(r.Most, times)) > 0 {
			return false
		}
	}
	return true
}

// plainCovers tells whether of each variable what it has, at y, is at least its cost times so much.
func plainCovers(p api.Prog, y api.Point, times int64) bool {
	for j, cost := range p.Costs {
		var has []int64
		for _, r := range p.Rows {
			has = append(has, r.Of[j])
		}
		if plainSum(has, y.Nums).Cmp(mul(cost, times)) < 0 {
			return false
		}
	}
	return true
}

// plainIs tells whether f, as it is written, is num divided by den.
func plainIs(f api.Frac, num *big.Int, den int64) bool {
	q := new(big.Rat).SetFrac(num, big.NewInt(den))
	limit := big.NewInt(part)
	return q.Num().CmpAbs(limit) <= 0 && q.Denom().Cmp(limit) <= 0 && q.Num().Cmp(big.NewInt(f.Num)) == 0 && q.Denom().Cmp(big.NewInt(f.Den)) == 0
}

// plainHolds is D1 by its words and big numbers, of a program that may be.
func plainHolds(p api.Prog, a api.Answer) bool {
	vars, rows := len(p.Costs), len(p.Rows)
	var mosts []int64
	for _, r := range p.Rows {
		mosts = append(mosts, r.Most)
	}
	empty := func(x api.Point) bool { return len(x.Nums) == 0 && x.Den == 0 }
	unworthy := a.Worth.Num == 0 && a.Worth.Den == 0
	switch a.Kind {
	case 1:
		return empty(a.Ray) && plainPoint(a.X, vars) && plainPoint(a.Y, rows) &&
			plainKeeps(p, a.X, a.X.Den) && plainCovers(p, a.Y, a.Y.Den) &&
			plainIs(a.Worth, plainSum(p.Costs, a.X.Nums), a.X.Den) && plainIs(a.Worth, plainSum(mosts, a.Y.Nums), a.Y.Den)
	case 2:
		return empty(a.Y) && unworthy && plainPoint(a.X, vars) && plainPoint(a.Ray, vars) && a.Ray.Den == 1 &&
			plainKeeps(p, a.X, a.X.Den) && plainKeeps(p, a.Ray, 0) && plainSum(p.Costs, a.Ray.Nums).Sign() > 0
	case 3:
		return empty(a.X) && empty(a.Ray) && unworthy && plainPoint(a.Y, rows) && a.Y.Den == 1 &&
			plainCovers(p, a.Y, 0) && plainSum(mosts, a.Y.Nums).Sign() < 0
	}
	return false
}

// check holds Holds to plainHolds, and answers what it told.
func check(t *testing.T, p api.Prog, a api.Answer) bool {
	t.Helper()
	got := Holds(p, a)
	if got != plainHolds(p, a) {
		t.Error(p, a, got)
	}
	return got
}

func TestD1Holds(t *testing.T) {
	for _, c := range holding() {
		if !check(t, c.p, c.a) {
			t.Error("holds:", c.p, c.a)
		}
	}
}

// TestD1EmptyLists has points that are empty by a list that is not nil.
func TestD1EmptyLists(t *testing.T) {
	for _, c := range holding() {
		for _, x := range []*api.Point{&c.a.X, &c.a.Y, &c.a.Ray} {
			if len(x.Nums) == 0 {
				x.Nums = []int64{}
			}
		}
		if !Holds(c.p, c.a) {
			t.Error("holds:", c.p, c.a)
		}
	}
}

func TestD1BestDoesNotHold(t *testing.T) {
	p := prog([]int64{3, 2}, []int64{1, 1, 4}, []int64{1, 3, 6})
	x, y, worth := point(1, 4, 0), point(1, 3, 0), quot(12, 1)
	for _, a := range []api.Answer{
		// X is not worth the most.
		best(point(1, 3, 1), y, quot(11, 1)),
		// X is not worth so much.
		best(point(1, 3, 1), y, worth),
		// X is worth it, but does not go.
		best(point(1, 0, 6), y, worth),
		// X is worth it, but has a number below 0.
		best(point(1, 6, -3), y, worth),
		// Y comes to it, but does not cover the first cost.
		best(x, point(1, 0, 2), worth),
		// Y comes to it and covers, but has a number below 0.
		best(x, point(3, 12, -2), worth),
		// Y covers, but comes to more.
		best(x, point(1, 3, 1), quot(18, 1)),
		best(x, point(1, 3, 1), worth),
		// Y comes to it, and is too low for the first cost by the least.
		best(x, point(part/4, 3*(part/4)-3, 2), worth),
		// Another Worth.
		best(x, y, quot(13, 1)),
		best(x, y, quot(11, 1)),
		best(x, y, quot(-12, 1)),
		// The number, but no fraction that may be.
		best(x, y, quot(24, 2)),
		best(x, y, quot(-12, -1)),
		best(x, y, quot(12, 0)),
		best(x, y, quot(0, 0)),
		// The numbers, but no points that may be.
		best(point(2, 8, 0), y, worth),
		best(point(-1, -4, 0), y, worth),
		best(point(0, 4, 0), y, worth),
		best(x, point(2, 6, 0), worth),
		best(x, point(-1, -3, 0), worth),
		best(x, point(0, 3, 0), worth),
		// Too few numbers, or too many.
		best(point(1, 4), y, worth),
		best(point(1, 4, 0, 0), y, worth),
		best(x, point(1, 3), worth),
		best(x, point(1, 3, 0, 0), worth),
		best(x, point(1, 3, 0, 0, 0, 0), worth),
		// What is to be there is empty, or in part.
		best(api.Point{}, y, worth),
		best(x, api.Point{}, worth),
		best(api.Point{}, api.Point{}, quot(0, 0)),
		best(api.Point{}, api.Point{}, quot(0, 1)),
		// Too great.
		best(point(1, part+1, 0), y, worth),
		best(x, point(1, part+1, 0), worth),
		best(x, point(1, math.MinInt64, 0), worth),
		best(point(math.MinInt64, 4, 0), y, worth),
		best(x, y, quot(math.MinInt64, 1)),
		best(x, y, quot(12, math.MinInt64)),
		// What is not named is not empty.
		{Kind: api.Best, X: x, Y: y, Ray: point(1, 0, 0), Worth: worth},
		{Kind: api.Best, X: x, Y: y, Ray: api.Point{Den: 1}, Worth: worth},
		{Kind: api.Best, X: x, Y: y, Ray: api.Point{Den: -1}, Worth: worth},
		{Kind: api.Best, X: x, Y: y, Ray: point(0, 0), Worth: worth},
	} {
		if check(t, p, a) {
			t.Error("does not hold:", a)
		}
	}
}

// TestD1WorthThatIsNoFraction has an X that goes and a Y that covers, both worth what may be no fraction, or one of them: no Worth is that.
func TestD1WorthThatIsNoFraction(t *testing.T) {
	p := prog([]int64{400}, []int64{1, 12})
	x, y := point(part-3, part-1), point(2097151, part-1)
	if _, wrong := layout.Worth(p, x); wrong != api.ErrSize || !layout.Goes(p, x) {
		t.Fatal(wrong)
	}
	if _, wrong := frac.Make(12*y.Nums[0], y.Den); wrong != api.ErrSize || y.Nums[0] < 400*y.Den {
		t.Fatal(wrong)
	}
	for _, worth := range []api.Frac{{}, {Num: 0, Den: 1}, {Num: 4800, Den: 1}, {Num: 400 * (part - 1), Den: part - 3}, {Num: 12 * (part - 1), Den: 2097151}} {
		for _, one := range []api.Point{x, point(1, 12), point(1, 0)} {
			for _, other := range []api.Point{y, point(1, 400), point(1, part)} {
				a := best(one, other, worth)
				if got := check(t, p, a); got != (one.Den == 1 && one.Nums[0] == 12 && other.Nums[0] == 400 && worth.Num == 4800) {
					t.Error(a, got)
				}
			}
		}
	}
}

func TestD1EndlessDoesNotHold(t *testing.T) {
	p := prog([]int64{2, -1}, []int64{1, -1, 3}, []int64{-1, 0, 0})
	x, ray := point(2, 7, 1), point(1, 1, 1)
	for _, a := range []api.Answer{
		// X does not go.
		endless(point(2, 8, 1), ray),
		endless(point(1, -1, 1), ray),
		endless(point(1, 0, -1), ray),
		// Ray leads out of a row.
		endless(x, point(1, 1, 0)),
		endless(x, point(1, 2, 1)),
		endless(x, point(1, part, part-1)),
		// It is worth nothing.
		endless(x, point(1, 1, 2)),
		endless(x, point(1, 0, 0)),
		// It is worth less than nothing.
		endless(x, point(1, 0, 1)),
		// A number below 0.
		endless(x, point(1, 1, -1)),
		endless(x, point(1, -1, -3)),
		// Den is not 1.
		endless(x, point(2, 1, 1)),
		endless(x, point(2, 2, 2)),
		endless(x, point(0, 1, 1)),
		endless(x, point(-1, 1, 1)),
		endless(x, point(-1, -1, -1)),
		endless(x, point(part, 1, 1)),
		// Too great.
		endless(x, point(1, part, part+1)),
		endless(x, point(1, part+1, part+1)),
		endless(x, point(1, 1<<62, 1<<62)),
		endless(x, point(1, math.MinInt64, 1)),
		// Too few numbers, or too many.
		endless(x, point(1, 1)),
		endless(x, point(1, 1, 1, 0)),
		endless(point(2, 7), ray),
		endless(point(2, 7, 1, 0), ray),
		// No point that may be.
		endless(point(4, 14, 2), ray),
		// What is to be there is empty, or in part.
		endless(api.Point{}, ray),
		endless(x, api.Point{}),
		endless(api.Point{}, api.Point{}),
		endless(x, api.Point{Den: 1}),
		// What is not named is not empty.
		{Kind: api.Endless, X: x, Ray: ray, Y: point(1, 0, 0)},
		{Kind: api.Endless, X: x, Ray: ray, Y: api.Point{Den: 1}},
		{Kind: api.Endless, X: x, Ray: ray, Y: point(0, 0)},
		{Kind: api.Endless, X: x, Ray: ray, Worth: quot(0, 1)},
		{Kind: api.Endless, X: x, Ray: ray, Worth: quot(1, 0)},
		{Kind: api.Endless, X: x, Ray: ray, Worth: quot(13, 2)},
	} {
		if check(t, p, a) {
			t.Error("does not hold:", a)
		}
	}
	// But for its number below 0, this Ray would lead on.
	if q := prog([]int64{-1}, []int64{1, 3}); check(t, q, endless(point(1, 0), point(1, -1))) {
		t.Error(q)
	}
}

func TestD1NothingDoesNotHold(t *testing.T) {
	p := prog([]int64{400, -400}, []int64{3, 0, 5}, []int64{-2, 1, -4})
	y := point(1, 2, 3)
	if !check(t, p, nothing(y)) {
		t.Fatal("holds:", y)
	}
	for _, a := range []api.Answer{
		// Below 0 of the first variable.
		nothing(point(1, 1, 2)),
		nothing(point(1, 0, 1)),
		// Mosts together are 0.
		nothing(point(1, 4, 5)),
		// Mosts together are above 0.
		nothing(point(1, 5, 4)),
		nothing(point(1, 0, 0)),
		// Numbers below 0.
		nothing(point(1, -2, -3)),
		nothing(point(1, 2, -3)),
		nothing(point(1, -1, 3)),
		// Den is not 1.
		nothing(point(5, 2, 3)),
		nothing(point(0, 2, 3)),
		nothing(point(-1, 2, 3)),
		nothing(point(-1, -2, -3)),
		nothing(point(2, 4, 6)),
		// Too few numbers, or too many.
		nothing(point(1, 2)),
		nothing(point(1, 2, 3, 0)),
		nothing(point(1, 2, 3, 0, 0, 0, 0)),
		// Too great.
		nothing(point(1, part, part/2*3)),
		nothing(point(1, 2*part, 3*part)),
		nothing(point(1, 2, math.MinInt64)),
		nothing(point(1, 1<<62, 1<<62+1)),
		// What is to be there is empty, or in part.
		nothing(api.Point{}),
		nothing(api.Point{Den: 1}),
		// What is not named is not empty.
		{Kind: api.Nothing, Y: y, X: point(1, 0, 0)},
		{Kind: api.Nothing, Y: y, X: api.Point{Den: 1}},
		{Kind: api.Nothing, Y: y, X: point(0, 0)},
		{Kind: api.Nothing, Y: y, Ray: point(1, 0, 0)},
		{Kind: api.Nothing, Y: y, Ray: api.Point{Den: 1}},
		{Kind: api.Nothing, Y: y, Ray: point(0, 0, 0)},
		{Kind: api.Nothing, Y: y, Worth: quot(0, 1)},
		{Kind: api.Nothing, Y: y, Worth: quot(-2, 0)},
		{Kind: api.Nothing, Y: y, Worth: quot(-2, 1)},
	} {
		if check(t, p, a) {
			t.Error("does not hold:", a)
		}
	}
	// But for its number below 0, this Y would prove it.
	if q := prog([]int64{1}, []int64{1, 2}, []int64{1, 1}); check(t, q, nothing(point(1, -1, 1))) {
		t.Error(q)
	}
	// The second variable alone may be what is below 0, and by 1 alone.
	if q := prog([]int64{1, 1}, []int64{0, 0, -1}, []int64{0, -1, -1}); check(t, q, nothing(point(1, part, 1))) || !check(t, q, nothing(point(1, 1, 0))) {
		t.Error(q)
	}
}

func TestD1OtherKinds(t *testing.T) {
	for _, c := range holding() {
		right := c.a.Kind
		for _, kind := range []int{-1, 0, 1, 2, 3, 4, 5, 257, 1<<32 + right, math.MinInt, math.MaxInt} {
			if c.a.Kind = kind; check(t, c.p, c.a) != (kind == right) {
				t.Error(c.p, c.a)
			}
		}
	}
}

// edgesOf answers numbers near n, and those at which a limit begins or ends.
func edgesOf(n int64) []int64 {
	return []int64{n - 1, n + 1, -n, 2 * n, 0, 1, -1, part - 1, part, part + 1, -part, math.MinInt64, math.MaxInt64}
}

// TestD1EachNumber changes each number of each answer that holds, and each number's being there.
func TestD1EachNumber(t *testing.T) {
	still, no := 0, 0
	for _, c := range holding() {
		try := func() {
			if check(t, c.p, c.a) {
				still++
			} else {
				no++
			}
		}
		change := func(n *int64) {
			was := *n
			for _, *n = range edgesOf(was) {
				try()
			}
			*n = was
		}
		change(&c.a.Worth.Num)
		change(&c.a.Worth.Den)
		for _, x := range []*api.Point{&c.a.X, &c.a.Y, &c.a.Ray} {
			change(&x.Den)
			for i := range x.Nums {
				change(&x.Nums[i])
			}
			was := x.Nums
			for _, x.Nums = range [][]int64{was[:max(0, len(was)-1)], append(slices.Clone(was), 0), append(slices.Clone(was), 1), make([]int64, 9), nil} {
				try()
			}
			x.Nums = was
		}
	}
	if still < 20 || no < 1000 {
		t.Error("not all was tried", still, no)
	}
}

// TestD1EachNumberOfThePrograms changes each number of each program.
func TestD1EachNumberOfThePrograms(t *testing.T) {
	still, no := 0, 0
	for _, c := range holding() {
		change := func(n *int64, limit int64) {
			was := *n
			for _, *n = range []int64{was - 1, was + 1, -was, 0, limit, -limit} {
				if *n < -limit || *n > limit {
					continue
				}
				if check(t, c.p, c.a) {
					still++
				} else {
					no++
				}
			}
			for _, *n = range []int64{limit + 1, -limit - 1, math.MinInt64, math.MaxInt64} {
				if Holds(c.p, c.a) {
					t.Error("may not be:", c.p)
				}
			}
			*n = was
		}
		for j := range c.p.Costs {
			change(&c.p.Costs[j], api.MaxCost)
		}
		for i := range c.p.Rows {
			change(&c.p.Rows[i].Most, api.MaxEntry)
			for j := range c.p.Rows[i].Of {
				change(&c.p.Rows[i].Of[j], api.MaxEntry)
			}
		}
	}
	if still < 100 || no < 100 {
		t.Error("not all was tried", still, no)
	}
}

func TestD1WrongPrograms(t *testing.T) {
	for _, p := range []api.Prog{
		{}, {Costs: []int64{1}}, {Rows: []api.Row{{}}}, {Rows: []api.Row{{Most: -1}, {}}},
		prog([]int64{1}, []int64{1}), prog([]int64{1}, []int64{1, 1, 1}), prog([]int64{1, 1}, []int64{1, 1}), prog([]int64{0}, []int64{0, 0}, []int64{0}),
		wide(5, 1, 0, 0, 0), wide(1, 5, 0, 0, 0), wide(0, 1, 0, 0, -1), wide(1, 0, 0, 0, 0), wide(100, 100, 0, 0, 0),
		wide(5, 1, 1, -1, 0), wide(1, 5, 1, -1, 0), wide(5, 1, 1, 1, -1), wide(1, 5, 1, 1, -1),
	} {
		vars, rows := len(p.Costs), len(p.Rows)
		zero, ones, y := make([]int64, vars), slices.Repeat([]int64{1}, vars), make([]int64, rows)
		for _, a := range []api.Answer{
			{}, best(point(1, zero...), point(1, y...), quot(0, 1)), best(point(1, zero...), point(1, y...), quot(0, 0)),
			best(api.Point{}, api.Point{}, quot(0, 1)), endless(point(1, zero...), point(1, ones...)), endless(api.Point{Den: 1}, api.Point{Den: 1}),
			nothing(point(1, slices.Repeat([]int64{1}, rows)...)), nothing(api.Point{Den: 1}),
		} {
			if Holds(p, a) {
				t.Error("may not be:", p, a)
			}
		}
	}
}

// smallPoints answers points of so many numbers: small ones, some that may not be, and the empty one.
func smallPoints(many int, dens ...int64) []api.Point {
	out := []api.Point{{}}
	for _, den := range dens {
		for code := range int64(math.Pow(4, float64(many))) {
			x := api.Point{Den: den}
			for range many {
				x.Nums = append(x.Nums, code%4-1)
				code /= 4
			}
			out = append(out, x)
		}
	}
	return out
}

// TestD1AllSmallAnswers goes through all answers of small numbers to small programs of one variable and one row.
func TestD1AllSmallAnswers(t *testing.T) {
	points := smallPoints(1, 0, 1, 2)
	held := map[int]int{}
	for code := range int64(125) {
		p := prog([]int64{code%5 - 2}, []int64{code/5%5 - 2, code/25 - 2})
		for kind := 0; kind <= 4; kind++ {
			for place := range len(points) * len(points) {
				x, y := points[place%len(points)], points[place/len(points)]
				for _, ray := range []api.Point{{}, point(1, 1), point(1, 2), point(2, 1)} {
					for _, worth := range []api.Frac{{}, {Num: 0, Den: 1}, {Num: 1, Den: 1}, {Num: 1, Den: 2}, {Num: -1, Den: 1}} {
						if check(t, p, api.Answer{Kind: kind, X: x, Y: y, Ray: ray, Worth: worth}) {
							held[kind]++
						}
					}
				}
			}
		}
	}
	if held[api.Best] == 0 || held[api.Endless] == 0 || held[api.Nothing] == 0 || len(held) != 3 {
		t.Error(held)
	}
}

// choices answers all rising lists of so many numbers from 0 to below end.
func choices(end, many int) [][]int {
	if many == 0 {
		return [][]int{{}}
	}
	var out [][]int
	for last := many - 1; last < end; last++ {
		for _, c := range choices(last, many-1) {
			out = append(out, append(c, last))
		}
	}
	return out
}

// goers answers the points of all corners of p that go: where there is a most, one of them is worth it.
func goers(p api.Prog) []api.Point {
	var out []api.Point
	for _, at := range choices(len(p.Costs)+len(p.Rows), len(p.Rows)) {
		if c, wrong := corner.Look(p, at); wrong == api.OK && !layout.Below(0, c.X.Nums...) {
			x, _ := frac.Point(c.X.Nums[:len(p.Costs)], c.X.Den)
			out = append(out, x)
		}
	}
	return out
}

// bests answers, for each corner, the answer that it is best, be it so or not.
func bests(p api.Prog) []api.Answer {
	var out []api.Answer
	for _, at := range choices(len(p.Costs)+len(p.Rows), len(p.Rows)) {
		if c, wrong := corner.Look(p, at); wrong == api.OK {
			x, _ := frac.Point(c.X.Nums[:len(p.Costs)], c.X.Den)
			worth, _ := layout.Worth(p, x)
			out = append(out, best(x, c.Y, worth))
		}
	}
	return out
}

// rat answers the number of a fraction.
func rat(f api.Frac) *big.Rat { return big.NewRat(f.Num, f.Den) }

// worthOf answers what x is worth, however great.
func worthOf(p api.Prog, x api.Point) *big.Rat {
	return new(big.Rat).SetFrac(plainSum(p.Costs, x.Nums), big.NewInt(x.Den))
}

// checkFarther holds an Endless that holds to D2: X and t times Ray goes, and is worth t times what Ray is worth more.
func checkFarther(t *testing.T, p api.Prog, a api.Answer) {
	t.Helper()
	gain := plainSum(p.Costs, a.Ray.Nums)
	for _, times := range []api.Frac{{Num: 0, Den: 1}, {Num: 1, Den: 3}, {Num: 1, Den: 1}, {Num: 7, Den: 2}, {Num: 10000, Den: 1}} {
		nums := make([]int64, len(a.X.Nums))
		for j, n := range a.X.Nums {
			nums[j] = n*times.Den + times.Num*a.Ray.Nums[j]*a.X.Den
		}
		x, wrong := frac.Point(nums, a.X.Den*times.Den)
		if wrong != api.OK || !layout.Goes(p, x) {
			t.Error("goes:", p, a, times, wrong)
			continue
		}
		more := new(big.Rat).Mul(rat(times), new(big.Rat).SetInt(gain))
		if gain.Sign() <= 0 || worthOf(p, x).Cmp(more.Add(more, worthOf(p, a.X))) != 0 {
			t.Error("worth:", p, a, times)
		}
	}
}

// checkSo holds D2: what an answer that holds says is so of all points of a list that go.
func checkSo(t *testing.T, p api.Prog, a api.Answer, points []api.Point) {
	t.Helper()
	switch a.Kind {
	case api.Best:
		for _, x := range points {
			if layout.Goes(p, x) && worthOf(p, x).Cmp(rat(a.Worth)) > 0 {
				t.Error("worth more:", p, a, x)
			}
		}
	case api.Endless:
		checkFarther(t, p, a)
	case api.Nothing:
		for _, x := range points {
			if layout.Goes(p, x) {
				t.Error("goes:", p, a, x)
			}
		}
	}
}

// boxed answers all points of two whole numbers from 0 to top.
func boxed(top int64) []api.Point {
	var out []api.Point
	for a := range top + 1 {
		for b := range top + 1 {
			out = append(out, point(1, a, b))
		}
	}
	return out
}

// grid answers points of two numbers near 0, and some that are far from it.
func grid() []api.Point {
	out := []api.Point{point(1, 100, 0), point(1, 0, 100), point(1, 100, 100), point(1, part, part-1)}
	for den := int64(1); den <= 3; den++ {
		for a := range 4*den + 1 {
			for b := range 4*den + 1 {
				if x := point(den, a, b); frac.MayPoint(x) {
					out = append(out, x)
				}
			}
		}
	}
	return out
}

// answers answers what may be answered to a program of two variables and two rows with numbers from -2 to 2: an answer that holds is among them.
func answers(p api.Prog) []api.Answer {
	out := bests(p)
	starts := goers(p)
	for _, x := range boxed(2) {
		out = append(out, nothing(x))
		for _, start := range starts[:min(2, len(starts))] {
			out = append(out, endless(start, x))
		}
	}
	return out
}

// checkOneKind holds D2 of all that holds among answers, and that it is all of one kind, which is told.
func checkOneKind(t *testing.T, p api.Prog, points []api.Point) int {
	t.Helper()
	kind := 0
	for _, a := range answers(p) {
		if !check(t, p, a) {
			continue
		}
		if kind != 0 && kind != a.Kind {
			t.Error("two kinds:", p, a, kind)
		}
		kind = a.Kind
		checkSo(t, p, a, points)
	}
	return kind
}

// numbers answers a rule by which numbers from -limit to limit come, the same ones at each run.
func numbers(seed uint64) func(limit int64) int64 {
	return func(limit int64) int64 {
		seed = seed*6364136223846793005 + 1442695040888963407
		return int64(seed>>33)%(2*limit+1) - limit
	}
}

// mixed answers a program of numbers that come by a rule.
func mixed(next func(int64) int64, vars, rows int, cost, entry int64) api.Prog {
	p := wide(vars, rows, 0, 0, 0)
	for j := range p.Costs {
		p.Costs[j] = next(cost)
	}
	for i := range p.Rows {
		p.Rows[i].Most = next(entry)
		for j := range p.Rows[i].Of {
			p.Rows[i].Of[j] = next(entry)
		}
	}
	return p
}

// TestD2SmallPrograms has programs of two variables and two rows: what holds is so, and one kind holds of each.
func TestD2SmallPrograms(t *testing.T) {
	points := grid()
	next := numbers(1)
	held := [4]int{}
	for range 3000 {
		p := mixed(next, 2, 2, 2, 2)
		held[checkOneKind(t, p, points)]++
	}
	if held[0] != 0 || held[1] < 300 || held[2] < 300 || held[3] < 300 {
		t.Error(held)
	}
}

// TestD2BestOfAllSizes holds Best to all corners that go, at all sizes, small numbers and great ones.
func TestD2BestOfAllSizes(t *testing.T) {
	next := numbers(2)
	held, no := 0, 0
	for size := range 16 * 12 {
		entry := []int64{2, 12}[size/16%2]
		p := mixed(next, size%4+1, size/4%4+1, entry*33, entry)
		points := goers(p)
		for _, a := range bests(p) {
			if !check(t, p, a) {
				no++
				continue
			}
			held++
			checkSo(t, p, a, points)
			// Less than the most does not hold, though the point goes, nor does the most of a point that is worth less.
			for _, x := range points {
				worth, _ := layout.Worth(p, x)
				if most := worth == a.Worth; check(t, p, best(x, a.Y, worth)) != most || check(t, p, best(x, a.Y, a.Worth)) != most {
					t.Error(p, x, a)
				}
			}
		}
	}
	if held < 50 || no < 50 {
		t.Error("not all was tried", held, no)
	}
}

// TestD2EndlessAndNothingOfAllSizes holds answers of small rays, and of small numbers of rows, to D2 at all sizes.
func TestD2EndlessAndNothingOfAllSizes(t *testing.T) {
	next := numbers(3)
	held := [4]int{}
	for size := range 16 * 40 {
		vars, rows := size%4+1, size/4%4+1
		p := mixed(next, vars, rows, 9, []int64{1, 3}[size/16%2])
		points := goers(p)
		claims := []api.Answer{}
		for _, y := range smallPoints(rows, 1) {
			claims = append(claims, nothing(y))
		}
		for _, ray := range smallPoints(vars, 1) {
			for _, x := range points[:min(2, len(points))] {
				claims = append(claims, endless(x, ray))
			}
		}
		for _, a := range claims {
			if check(t, p, a) {
				held[a.Kind]++
				checkSo(t, p, a, points)
			}
		}
	}
	if held[api.Endless] < 500 || held[api.Nothing] < 500 {
		t.Error("not all was tried", held)
	}
}

// TestD1ReadsNothingBehindAndChangesNothing holds Holds to P3, and to the same answer each time.
func TestD1ReadsNothingBehindAndChangesNothing(t *testing.T) {
	long := func(nums []int64) []int64 {
		if nums == nil {
			return nil
		}
		return append(slices.Clone(nums), math.MinInt64, math.MaxInt64)[:len(nums)]
	}
	for _, c := range holding() {
		c.p.Costs = long(c.p.Costs)
		for i := range c.p.Rows {
			c.p.Rows[i].Of = long(c.p.Rows[i].Of)
		}
		c.p.Rows = append(slices.Clone(c.p.Rows), api.Row{Most: 999})[:len(c.p.Rows)]
		for _, x := range []*api.Point{&c.a.X, &c.a.Y, &c.a.Ray} {
			x.Nums = long(x.Nums)
		}
		all := func() string {
			text := fmt.Sprint(c.p.Costs[:len(c.p.Costs)+2], c.p.Rows[:len(c.p.Rows)+1], c.a)
			for _, r := range c.p.Rows {
				text += fmt.Sprint(r.Of[:len(r.Of)+2])
			}
			for _, x := range []api.Point{c.a.X, c.a.Y, c.a.Ray} {
				if x.Nums != nil {
					text += fmt.Sprint(x.Nums[:len(x.Nums)+2])
				}
			}
			return text
		}
		before := all()
		if !Holds(c.p, c.a) || !Holds(c.p, c.a) {
			t.Error("holds:", c.p, c.a)
		}
		if after := all(); after != before {
			t.Error("changed:", before, after)
		}
	}
}
