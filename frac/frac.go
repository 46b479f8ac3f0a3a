// Package frac has fractions and points, always in lowest terms, and knows which of them may be.
package frac

import "cornerwalk/api"

const (
	maxGiven = 1 << 62 // of a number that is handed to Make or Point
	maxNums  = api.MaxVars + api.MaxRows
)

// May tells whether a is a fraction that may be: in lowest terms, with parts that are not too great.
func May(a api.Frac) bool { return mayParts(a.Den, a.Num) }

// MayPoint tells of a point what May tells of a fraction, and whether it has not too many numbers.
func MayPoint(p api.Point) bool {
	return len(p.Nums) <= maxNums && mayParts(p.Den, p.Nums...)
}

// Make answers the fraction that is num divided by den.
func Make(num, den int64) (api.Frac, api.Errno) {
	by, wrong := lowering(den, num)
	if wrong != api.OK {
		return api.Frac{}, wrong
	}
	return api.Frac{Num: num / by, Den: den / by}, api.OK
}

// Less tells whether both may be, and a is below b.
func Less(a, b api.Frac) bool {
	// Parts that may be are so small that neither product overflows.
	return May(a) && May(b) && a.Num*b.Den < b.Num*a.Den
}

// Point answers the point that is each of nums divided by den.
func Point(nums []int64, den int64) (api.Point, api.Errno) {
	by, wrong := lowering(den, nums...)
	if wrong != api.OK {
		return api.Point{}, wrong
	}
	lowered := make([]int64, len(nums))
	for i, n := range nums {
		lowered[i] = n / by
	}
	return api.Point{Nums: lowered, Den: den / by}, api.OK
}

// mayParts tells whether den and nums may be the parts of one fraction or point, however many nums there are.
func mayParts(den int64, nums ...int64) bool {
	return den >= 1 && Within(api.MaxPart, den) && Within(api.MaxPart, nums...) && divisor(den, nums...) == 1
}

// lowering answers the number that, divided out of den and of all nums, leaves lowest terms.
func lowering(den int64, nums ...int64) (int64, api.Errno) {
	if den == 0 || !Within(maxGiven, den) || !Within(maxGiven, nums...) {
		return 0, api.ErrRange
	}
	if len(nums) > maxNums {
		return 0, api.ErrSize
	}
	by := divisor(den, nums...)
	if den < 0 {
		by = -by // so that den comes out above 0
	}
	if den/by > api.MaxPart {
		return 0, api.ErrSize
	}
	for _, n := range nums {
		if !Within(api.MaxPart, n/by) {
			return 0, api.ErrSize
		}
	}
	return by, api.OK
}

// Within tells whether all nums are from -limit to limit.
func Within(limit int64, nums ...int64) bool {
	for _, n := range nums {
		if n < -limit || n > limit {
			return false
		}
	}
	return true
}

// divisor answers the greatest number that divides first and all others.
func divisor(first int64, others ...int64) int64 {
	common := first
	for _, n := range others {
		for n != 0 {
			common, n = n, common%n
		}
	}
	return max(common, -common)
}
