package frac

import (
	"math"
	"math/big"
	"slices"
	"testing"

	"cornerwalk/api"
)

const part = api.MaxPart

// Types of the tests' own, so that rows of tables need no field names.
type (
	parts struct{ Num, Den int64 }
	place struct {
		Nums []int64
		Den  int64
	}
)

// edges are the numbers at which a limit of A1 or A2 begins or ends, and some ordinary ones.
func edges() []int64 {
	out := []int64{math.MinInt64, math.MinInt64 + 1, math.MaxInt64 - 1, math.MaxInt64}
	for _, n := range []int64{0, 1, 2, 3, 6, 30, part - 1, part, part + 1, 2 * part, 3 * part, 1<<62 - 1, 1 << 62, 1<<62 + 1} {
		out = append(out, n, -n)
	}
	return out
}

// plainMay is A1 by the library's big numbers, for any number of nums.
func plainMay(nums []int64, den int64) bool {
	if len(nums) > api.MaxVars+api.MaxRows || den < 1 || den > part {
		return false
	}
	common := big.NewInt(den)
	for _, n := range nums {
		if n < -part || n > part {
			return false
		}
		common.GCD(nil, nil, common, new(big.Int).Abs(big.NewInt(n)))
	}
	return common.Cmp(big.NewInt(1)) == 0
}

// plainPoint is A2 by the library's big fractions: Den is what all of them have as denominators, together.
func plainPoint(nums []int64, den int64) ([]int64, int64, api.Errno) {
	wrong := den == 0
	for _, n := range append([]int64{den}, nums...) {
		wrong = wrong || n < -(1<<62) || n > 1<<62
	}
	if wrong {
		return nil, 0, api.ErrRange
	}
	if len(nums) > api.MaxVars+api.MaxRows {
		return nil, 0, api.ErrSize
	}
	whole := big.NewInt(1)
	for _, n := range nums {
		d := big.NewRat(n, den).Denom()
		whole.Div(new(big.Int).Mul(whole, d), new(big.Int).GCD(nil, nil, whole, d))
	}
	limit := big.NewInt(part)
	var out []int64
	for _, n := range nums {
		q := new(big.Rat).Mul(big.NewRat(n, den), new(big.Rat).SetInt(whole))
		if q.Num().CmpAbs(limit) > 0 {
			return nil, 0, api.ErrSize
		}
		out = append(out, q.Num().Int64())
	}
	if whole.Cmp(limit) > 0 {
		return nil, 0, api.ErrSize
	}
	return out, whole.Int64(), api.OK
}

func TestA1FractionsThatMayBe(t *testing.T) {
	for _, a := range []parts{{0, 1}, {1, 1}, {-1, 1}, {3, 2}, {-3, 2}, {part, 1}, {-part, 1}, {1, part}, {-1, part}, {part, part - 1}, {part - 1, part}} {
		if !May(api.Frac(a)) {
			t.Error("may be:", a)
		}
	}
}

func TestA1FractionsThatMayNotBe(t *testing.T) {
	for _, a := range []parts{
		{}, {1, 0}, {0, 2}, {0, part}, {2, 4}, {-2, 4}, {3, 3}, {part, part}, {-part, part}, {part, 2}, {2, part},
		{1, -1}, {0, -1}, {-1, -2}, {part + 1, 1}, {-part - 1, 1}, {1, part + 1}, {3, 1 << 31},
		{math.MinInt64, 1}, {math.MaxInt64, 1}, {1, math.MinInt64}, {1, math.MaxInt64}, {math.MinInt64, math.MinInt64},
	} {
		if May(api.Frac(a)) {
			t.Error("may not be:", a)
		}
	}
}

func TestA1MayAtAllEdges(t *testing.T) {
	for _, n := range edges() {
		for _, d := range edges() {
			if got, want := May(api.Frac{Num: n, Den: d}), plainMay([]int64{n}, d); got != want {
				t.Error(n, d, got)
			}
			for _, m := range edges() {
				nums := []int64{n, m}
				if got, want := MayPoint(api.Point{Nums: nums, Den: d}), plainMay(nums, d); got != want {
					t.Error(nums, d, got)
				}
			}
		}
	}
}

func TestA1Points(t *testing.T) {
	for _, p := range []place{
		{nil, 1}, {[]int64{}, 1}, {[]int64{0}, 1}, {[]int64{0, 0}, 1}, {[]int64{2, 4, 6}, 9}, {[]int64{6, 10}, 15}, {[]int64{0, 3}, 2},
		{[]int64{-part, part}, 1}, {[]int64{1, 0}, part}, {[]int64{1, 2, 3, 4, 5, 6, 7, 8}, 1},
	} {
		if !MayPoint(api.Point(p)) {
			t.Error("may be:", p)
		}
	}
	for _, p := range []place{
		{}, {nil, 2}, {nil, -1}, {[]int64{0}, 2}, {[]int64{2, 4, 6}, 8}, {[]int64{6, 9}, 15}, {[]int64{1}, 0}, {[]int64{1}, -1},
		{[]int64{1, part + 1}, 1}, {[]int64{-part - 1, 1}, 1}, {[]int64{1, 0}, part + 1}, {make([]int64, 9), 1},
		{[]int64{1, math.MinInt64}, 1}, {[]int64{1}, math.MinInt64},
	} {
		if MayPoint(api.Point(p)) {
			t.Error("may not be:", p)
		}
	}
}

func TestA2Make(t *testing.T) {
	for _, c := range []struct {
		num, den int64
		want     api.Frac
		wrong    api.Errno
	}{
		{3, 2, api.Frac{Num: 3, Den: 2}, api.OK},
		{6, -4, api.Frac{Num: -3, Den: 2}, api.OK},
		{-6, -4, api.Frac{Num: 3, Den: 2}, api.OK},
		{0, 7, api.Frac{Num: 0, Den: 1}, api.OK},
		{0, -1 << 62, api.Frac{Num: 0, Den: 1}, api.OK},
		{part, 1, api.Frac{Num: part, Den: 1}, api.OK},
		{-1, part, api.Frac{Num: -1, Den: part}, api.OK},
		{1 << 62, 1 << 62, api.Frac{Num: 1, Den: 1}, api.OK},
		{-1 << 62, -1 << 62, api.Frac{Num: 1, Den: 1}, api.OK},
		{-1 << 62, 1 << 32, api.Frac{Num: -part, Den: 1}, api.OK},
		{1 << 32, -1 << 62, api.Frac{Num: -1, Den: part}, api.OK},
		{-1 << 62, 1 << 31, api.Frac{}, api.ErrSize},
		{1 << 31, 1 << 62, api.Frac{}, api.ErrSize},
		{part + 1, 1, api.Frac{}, api.ErrSize},
		{-part - 1, 1, api.Frac{}, api.ErrSize},
		{1, part + 1, api.Frac{}, api.ErrSize},
		{1, -part - 1, api.Frac{}, api.ErrSize},
		{1, 0, api.Frac{}, api.ErrRange},
		{0, 0, api.Frac{}, api.ErrRange},
		{1<<62 + 1, 1, api.Frac{}, api.ErrRange},
		{-1<<62 - 1, 1, api.Frac{}, api.ErrRange},
		{0, 1<<62 + 1, api.Frac{}, api.ErrRange},
		{0, -1<<62 - 1, api.Frac{}, api.ErrRange},
		{math.MinInt64, math.MinInt64, api.Frac{}, api.ErrRange},
		{math.MinInt64, -1, api.Frac{}, api.ErrRange},
		{math.MaxInt64, 0, api.Frac{}, api.ErrRange},
	} {
		if got, wrong := Make(c.num, c.den); got != c.want || wrong != c.wrong {
			t.Error(c.num, c.den, got, wrong)
		}
	}
}

func TestA2MakeAtAllEdges(t *testing.T) {
	for _, n := range edges() {
		for _, d := range edges() {
			want := api.Frac{}
			nums, den, errno := plainPoint([]int64{n}, d)
			if errno == api.OK {
				want = api.Frac{Num: nums[0], Den: den}
			}
			got, wrong := Make(n, d)
			if got != want || wrong != errno || May(got) != (wrong == api.OK) {
				t.Error(n, d, got, wrong)
			}
		}
	}
}

func TestA2PointAtAllEdges(t *testing.T) {
	for _, n := range edges() {
		for _, m := range edges() {
			for _, d := range edges() {
				checkPoint(t, []int64{n, m}, d)
			}
		}
	}
}

func checkPoint(t *testing.T, nums []int64, den int64) {
	t.Helper()
	want, whole, errno := plainPoint(nums, den)
	got, wrong := Point(nums, den)
	if !slices.Equal(got.Nums, want) || got.Den != whole || wrong != errno || MayPoint(got) != (wrong == api.OK) {
		t.Error(nums, den, got, wrong)
	}
}

func TestA2PointOfManyNumbers(t *testing.T) {
	for _, den := range []int64{1, -1, 2, 12, -12, 30, part, -part, part + 1, 1 << 62, 0, math.MinInt64} {
		for count := range 12 {
			for _, step := range []int64{0, 1, 6, -6, 1 << 32, 1 << 59, math.MaxInt64 / 8} {
				nums := make([]int64, count)
				for i := range nums {
					nums[i] = int64(i) * step
				}
				checkPoint(t, nums, den)
			}
		}
	}
}

func TestA2PointTellsWhatIsWrongInOrder(t *testing.T) {
	many := make([]int64, 9)
	if p, wrong := Point(many, 1); wrong != api.ErrSize || p.Nums != nil || p.Den != 0 {
		t.Error("too many", p, wrong)
	}
	if _, wrong := Point(many, 0); wrong != api.ErrRange {
		t.Error("too many, and den is 0", wrong)
	}
	many[8] = math.MinInt64
	if _, wrong := Point(many, 1); wrong != api.ErrRange {
		t.Error("too many, and the last one out of range", wrong)
	}
	if _, wrong := Point([]int64{part + 1, 1<<62 + 1}, 1); wrong != api.ErrRange {
		t.Error("too great, and out of range", wrong)
	}
	if p, wrong := Point([]int64{1, part + 1}, 1); wrong != api.ErrSize || p.Nums != nil || p.Den != 0 {
		t.Error("too great", p, wrong)
	}
	if p, wrong := Point(nil, -5); wrong != api.OK || len(p.Nums) != 0 || p.Den != 1 {
		t.Error("none", p, wrong)
	}
}

func TestA2PointSharesNothing(t *testing.T) {
	behind := []int64{4, 6, 1<<62 + 1}
	p, wrong := Point(behind[:2], -2)
	if wrong != api.OK || !slices.Equal(p.Nums, []int64{-2, -3}) || p.Den != 1 {
		t.Fatal(p, wrong)
	}
	p.Nums[0] = 99
	_ = append(p.Nums, 99)
	if !slices.Equal(behind, []int64{4, 6, 1<<62 + 1}) {
		t.Error("changed:", behind)
	}
	whole := []int64{1, 2}
	p, _ = Point(whole, 1)
	whole[0] = 99
	if !slices.Equal(p.Nums, []int64{1, 2}) {
		t.Error("kept:", p)
	}
}

func TestA2Less(t *testing.T) {
	rising := []parts{
		{-part, 1}, {1 - part, 1}, {-3, 2}, {-4, 3}, {-1, 1}, {1 - part, part}, {-1, part - 1}, {-1, part}, {0, 1},
		{1, part}, {1, part - 1}, {1, 2}, {part - 2, part - 1}, {part - 1, part}, {1, 1}, {part, part - 1}, {3, 2}, {part - 1, 1}, {part, 1},
	}
	for i, a := range rising {
		for j, b := range rising {
			if got := Less(api.Frac(a), api.Frac(b)); got != (i < j) {
				t.Error(a, b, got)
			}
		}
	}
}

func TestA2LessAsksThatBothMayBe(t *testing.T) {
	low, high := api.Frac{Num: -part, Den: 1}, api.Frac{Num: part, Den: 1}
	for _, row := range []parts{{}, {0, 2}, {2, 4}, {1, -1}, {-1, -1}, {part + 1, 1}, {1, part + 1}, {math.MinInt64, 1}, {1, math.MinInt64}} {
		none := api.Frac(row)
		if Less(low, none) || Less(none, high) || Less(none, low) || Less(high, none) || Less(none, none) {
			t.Error(none)
		}
	}
}
