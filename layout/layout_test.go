package layout

import (
	"fmt"
	"math"
	"math/big"
	"slices"
	"testing"

	"cornerwalk/api"
)

const part = api.MaxPart

// prog answers a program of costs and of rows, the last number of each row being its Most.
func prog(costs []int64, rows ...[]int64) api.Prog {
	p := api.Prog{Costs: costs}
	for _, r := range rows {
		last := len(r) - 1
		p.Rows = append(p.Rows, api.Row{Of: r[:last:last], Most: r[last]})
	}
	return p
}

// point answers the point of nums divided by den, as it is told, also where it may not be.
func point(den int64, nums ...int64) api.Point { return api.Point{Nums: nums, Den: den} }

// wide answers a program of so many variables and rows, all its numbers being 1.
func wide(vars, rows int) api.Prog {
	p := api.Prog{Costs: slices.Repeat([]int64{1}, vars)}
	for range rows {
		p.Rows = append(p.Rows, api.Row{Of: slices.Repeat([]int64{1}, vars), Most: 1})
	}
	return p
}

// full answers the widest program that may be, with the same cost everywhere, and the same number everywhere in its rows.
func full(cost, entry, most int64) api.Prog {
	p := wide(api.MaxVars, api.MaxRows)
	for i := range p.Costs {
		p.Costs[i] = cost
	}
	for i := range p.Rows {
		p.Rows[i].Most = most
		for j := range p.Rows[i].Of {
			p.Rows[i].Of[j] = entry
		}
	}
	return p
}

// wrongProgs answers programs that may not be, each for one reason alone but for those that are wholly empty.
func wrongProgs() []api.Prog {
	out := []api.Prog{
		{},
		{Costs: []int64{1}},
		{Rows: []api.Row{{}}},
		{Rows: []api.Row{{Most: 1}}, Costs: []int64{}},
		prog([]int64{1}, []int64{1}),
		prog([]int64{1}, []int64{1, 1, 1}),
		prog([]int64{1, 1}, []int64{1, 1}),
		prog([]int64{1, 1}, []int64{1, 1, 1}, []int64{1, 1}),
		prog([]int64{1, 1}, []int64{1, 1, 1}, []int64{1, 1, 1, 1}),
		wide(5, 1), wide(1, 5), wide(5, 5), wide(1, 0), wide(0, 0), wide(0, 1), wide(100, 100),
	}
	for _, far := range []int64{1, 1 << 31, 1 << 32, math.MaxInt64 - 400} {
		out = append(out,
			prog([]int64{400 + far, 1}, []int64{1, 1, 1}), prog([]int64{1, -400 - far}, []int64{1, 1, 1}),
			prog([]int64{1, 1}, []int64{12 + far, 1, 1}), prog([]int64{1, 1}, []int64{1, -12 - far, 1}),
			prog([]int64{1, 1}, []int64{1, 1, 1}, []int64{1, 1, 12 + far}), prog([]int64{1, 1}, []int64{1, 1, -12 - far}))
	}
	return append(out, full(math.MinInt64, 1, 1), full(1, math.MinInt64, 1), full(1, 1, math.MinInt64))
}

// wrongPoints answers points that may not be, or not of two variables.
func wrongPoints() []api.Point {
	return []api.Point{
		{}, {Den: 1}, {Nums: []int64{}, Den: 1}, point(1, 0), point(1, 1), point(1, 0, 0, 0), point(1, 1, 1, 1), point(1, make([]int64, 9)...),
		point(0, 0, 0), point(0, 1, 1), point(-1, 0, 0), point(-1, -1, -1), point(2, 0, 0), point(2, 2, 4), point(part, 0, part),
		point(part+1, 1, 1), point(1, part+1, 0), point(1, 0, -part-1),
		point(math.MinInt64, 1, 1), point(math.MaxInt64, 1, 1), point(1, math.MinInt64, 1), point(1, 1, math.MaxInt64),
	}
}

// plainSum is the sum of products by the library's big numbers.
func plainSum(a, b []int64) *big.Int {
	sum := new(big.Int)
	for i := range a {
		sum.Add(sum, new(big.Int).Mul(big.NewInt(a[i]), big.NewInt(b[i])))
	}
	return sum
}

// plainGoes is B2's Goes, of a program and a point that may be.
func plainGoes(p api.Prog, x api.Point) bool {
	for _, n := range x.Nums {
		if n < 0 {
			return false
		}
	}
	for _, r := range p.Rows {
		if plainSum(r.Of, x.Nums).Cmp(new(big.Int).Mul(big.NewInt(r.Most), big.NewInt(x.Den))) > 0 {
			return false
		}
	}
	return true
}

// plainWorth is B2's Worth, of a program and a point that may be.
func plainWorth(p api.Prog, x api.Point) (api.Frac, api.Errno) {
	q := new(big.Rat).SetFrac(plainSum(p.Costs, x.Nums), big.NewInt(x.Den))
	if limit := big.NewInt(part); q.Num().CmpAbs(limit) > 0 || q.Denom().Cmp(limit) > 0 {
		return api.Frac{}, api.ErrSize
	}
	return api.Frac{Num: q.Num().Int64(), Den: q.Denom().Int64()}, api.OK
}

func TestB1ProgramsThatMayBe(t *testing.T) {
	all := []api.Prog{
		prog([]int64{3, 2}, []int64{1, 1, 4}, []int64{1, 3, 6}),
		prog([]int64{0}, []int64{0, 0}),
		prog([]int64{400, -400}, []int64{12, -12, 12}, []int64{-12, 12, -12}),
		full(400, 12, 12), full(-400, -12, -12), full(0, 0, 0),
	}
	for vars := 1; vars <= 4; vars++ {
		for rows := 1; rows <= 4; rows++ {
			all = append(all, wide(vars, rows))
		}
	}
	for _, p := range all {
		if !May(p) {
			t.Error("may be:", p)
		}
	}
}

func TestB1ProgramsThatMayNotBe(t *testing.T) {
	for _, p := range wrongProgs() {
		if May(p) {
			t.Error("may not be:", p)
		}
	}
}

// TestB1EachNumber puts the numbers at a limit's edge into each place of a program.
func TestB1EachNumber(t *testing.T) {
	for size := 1; size <= 4; size++ {
		for _, n := range []int64{-401, -400, -13, -12, 0, 12, 13, 400, 401} {
			for i := range size {
				p := wide(size, size)
				p.Costs[i] = n
				if May(p) != (n >= -400 && n <= 400) {
					t.Error("cost", p)
				}
				p = wide(size, size)
				p.Rows[i].Most = n
				if May(p) != (n >= -12 && n <= 12) {
					t.Error("most", p)
				}
				for j := range size {
					p = wide(size, size)
					p.Rows[i].Of[j] = n
					if May(p) != (n >= -12 && n <= 12) {
						t.Error("of", p)
					}
				}
			}
		}
	}
}

// TestB1RowsOfOtherLengths gives one row of several a number too many, or too few.
func TestB1RowsOfOtherLengths(t *testing.T) {
	for size := 1; size <= 4; size++ {
		for i := range size {
			for _, long := range []int{0, size - 1, size + 1, 9} {
				p := wide(size, size)
				p.Rows[i].Of = make([]int64, long)
				if May(p) {
					t.Error(p)
				}
			}
		}
	}
}

func TestB2Goes(t *testing.T) {
	p := prog([]int64{3, 2}, []int64{1, 1, 4}, []int64{1, 3, 6})
	for _, x := range []api.Point{point(1, 0, 0), point(1, 4, 0), point(1, 0, 2), point(1, 3, 1), point(2, 7, 1), point(part, part-1, 1)} {
		if !Goes(p, x) {
			t.Error("goes:", x)
		}
	}
	for _, x := range []api.Point{
		point(1, 5, 0), point(1, 0, 3), point(1, -1, 0), point(1, 0, -1), point(1, -4, 4), point(2, 9, 0), point(2, 6, 3), point(3, 0, 7),
		point(part, -1, 0), point(part-1, 0, -1), point(1, part, part), point(1, part, 0),
	} {
		if Goes(p, x) {
			t.Error("does not go:", x)
		}
	}
}

// TestB2GoesAtMost holds the edge of a row: what comes to Most goes, the least above it does not.
func TestB2GoesAtMost(t *testing.T) {
	p := prog([]int64{0}, []int64{12, 12})
	for den := int64(1); den <= part; den = den*3 + 1 {
		if !Goes(p, point(den, den-1)) || Goes(p, point(den, den+1)) || (den == 1) != Goes(p, point(den, den)) {
			t.Error(den)
		}
	}
	below := prog([]int64{0, 0}, []int64{-1, 0, -2}, []int64{0, -1, -1})
	if !Goes(below, point(1, 2, 1)) || Goes(below, point(part, 2*part/3, part-1)) || Goes(below, point(1, 1, 1)) || Goes(below, point(1, 2, 0)) {
		t.Error(below)
	}
}

func TestB2Worth(t *testing.T) {
	p := prog([]int64{3, -2}, []int64{1, 1, 4})
	for _, c := range []struct {
		x        api.Point
		num, den int64
	}{
		{point(2, 1, 1), 1, 2},
		{point(1, 0, 0), 0, 1},
		{point(1, 1000, 1), 2998, 1},
		{point(6, 2, 3), 0, 1},
		{point(6, 4, 3), 1, 1},
		{point(4, -1, 2), -7, 4},
		{point(part, 1, 1), 1, part},
		{point(part-1, 0, -1), 2, part - 1},
		{point(1, 0, part/2), -part, 1},
	} {
		if got, wrong := Worth(p, c.x); wrong != api.OK || got != (api.Frac{Num: c.num, Den: c.den}) {
			t.Error(c.x, got, wrong)
		}
	}
	for _, x := range []api.Point{point(1, 0, part), point(1, part, 0), point(1, part-1, part/2), point(1, part/3+1, 0), point(1, 0, part/2+1), point(1, -part, part)} {
		if got, wrong := Worth(p, x); wrong != api.ErrSize || got != (api.Frac{}) {
			t.Error(x, got, wrong)
		}
	}
}

func TestB2WrongInputs(t *testing.T) {
	right := prog([]int64{1, 1}, []int64{12, 12, 12})
	for _, x := range wrongPoints() {
		if got, wrong := Worth(right, x); Goes(right, x) || got != (api.Frac{}) || wrong != api.ErrForm {
			t.Error(x, got, wrong)
		}
	}
	for _, p := range wrongProgs() {
		for _, x := range append(wrongPoints(), point(1, make([]int64, min(9, len(p.Costs)))...)) {
			if got, wrong := Worth(p, x); Goes(p, x) || got != (api.Frac{}) || wrong != api.ErrForm {
				t.Error(p, x, got, wrong)
			}
		}
	}
	// Too great, too: what is named first is told.
	if _, wrong := Worth(prog([]int64{401}, []int64{1, 1}), point(1, part)); wrong != api.ErrForm {
		t.Error(wrong)
	}
}

// TestB2AtAllEdges holds Goes and Worth to big numbers, at the greatest and least numbers that may be, and small ones.
func TestB2AtAllEdges(t *testing.T) {
	nums := []int64{0, 1, 2, 7, part - 1, part, -1, -part}
	progs := []api.Prog{
		full(400, 12, 12), full(-400, -12, -12), full(400, -12, 12), full(1, 12, -12), full(0, 0, 0), full(3, 1, 7), full(1, -1, -3),
		prog([]int64{1, 2, -3, 400}, []int64{1, 0, 0, 0, 12}, []int64{0, 1, -1, 0, 0}, []int64{0, 0, 12, -12, 1}, []int64{3, 0, -2, 5, 9}),
	}
	for _, p := range progs {
		for place := range len(nums) * len(nums) * len(nums) * len(nums) {
			x := []int64{nums[place%8], nums[place/8%8], nums[place/64%8], nums[place/512]}
			for _, den := range []int64{1, 2, 3, part - 1, part} {
				if !lowest(den, x) {
					continue
				}
				checkAgainstPlain(t, p, point(den, x...))
			}
		}
	}
}

// lowest tells whether no number above 1 divides den and all nums.
func lowest(den int64, nums []int64) bool {
	common := big.NewInt(den)
	for _, n := range nums {
		common.GCD(nil, nil, common, new(big.Int).Abs(big.NewInt(n)))
	}
	return common.IsInt64() && common.Int64() == 1
}

func checkAgainstPlain(t *testing.T, p api.Prog, x api.Point) {
	t.Helper()
	if got := Goes(p, x); got != plainGoes(p, x) {
		t.Error(p, x, got)
	}
	want, errno := plainWorth(p, x)
	if got, wrong := Worth(p, x); got != want || wrong != errno {
		t.Error(p, x, got, wrong)
	}
}

// TestB2SmallPrograms goes through all points near the corners of small programs.
func TestB2SmallPrograms(t *testing.T) {
	for code := range 7 * 7 * 7 * 7 {
		p := prog([]int64{int64(code%7) - 3, 2}, []int64{int64(code/7%7) - 3, 1, int64(code/49%7) - 3}, []int64{1, int64(code/343) - 3, 2})
		for place := range 9 * 9 {
			x := []int64{int64(place%9) - 1, int64(place/9) - 1}
			for den := int64(1); den <= 3; den++ {
				if lowest(den, x) {
					checkAgainstPlain(t, p, point(den, x...))
				}
			}
		}
	}
}

func TestB1MostsAndBelow(t *testing.T) {
	p := prog([]int64{3, 2}, []int64{1, 1, 4}, []int64{1, 3, -6})
	got := Mosts(p)
	if !slices.Equal(got, []int64{4, -6}) || len(Mosts(api.Prog{})) != 0 {
		t.Error(got)
	}
	if got[0] = 99; p.Rows[0].Most != 4 || Mosts(p)[0] != 4 {
		t.Error("shared:", p)
	}
	if Below(0) || Below(0, 0, 1, math.MaxInt64) || !Below(0, 1, -1) || !Below(math.MaxInt64, 0) || Below(math.MinInt64, math.MinInt64) {
		t.Error("Below")
	}
}

func TestB1Asking(t *testing.T) {
	p := prog([]int64{3, 2}, []int64{1, 1, 4}, []int64{1, 3, 6})
	before := fmt.Sprint(p)
	for _, c := range []struct {
		mosts []int64
		want  api.Prog
	}{
		{[]int64{-7, 8}, prog([]int64{3, 2}, []int64{1, 1, -7}, []int64{1, 3, 8})},
		{[]int64{5}, prog([]int64{3, 2}, []int64{1, 1, 5}, []int64{1, 3, 0})},
		{nil, prog([]int64{3, 2}, []int64{1, 1, 0}, []int64{1, 3, 0})},
		{[]int64{1, 2, 3}, prog([]int64{3, 2}, []int64{1, 1, 1}, []int64{1, 3, 2})},
	} {
		if got := Asking(p, c.mosts); fmt.Sprint(got) != fmt.Sprint(c.want) {
			t.Error(c.mosts, got)
		}
		if fmt.Sprint(p) != before {
			t.Error("changed:", p)
		}
	}
}

func TestB2ReadsNothingBehindAndChangesNothing(t *testing.T) {
	costs, of, nums := []int64{3, 2, 999}, []int64{1, 1, 999}, []int64{1, 1, 999}
	rows := []api.Row{{Of: of[:2], Most: 4}, {Of: nil, Most: 999}}
	p := api.Prog{Costs: costs[:2], Rows: rows[:1]}
	x := api.Point{Nums: nums[:2], Den: 2}
	if w, wrong := Worth(p, x); !May(p) || !Goes(p, x) || w != (api.Frac{Num: 5, Den: 2}) || wrong != api.OK {
		t.Error(w, wrong)
	}
	if got := fmt.Sprint(costs, of, nums, rows); got != "[3 2 999] [1 1 999] [1 1 999] [{[1 1] 4} {[] 999}]" {
		t.Error("changed:", got)
	}
}
