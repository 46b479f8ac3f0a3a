package text

import (
	"fmt"
	"math"
	"reflect"
	"regexp"
	"slices"
	"strconv"
	"strings"
	"testing"

	"cornerwalk/api"
)

// prog answers a program of costs and of rows, the last number of each row being its Most.
func prog(costs []int64, rows ...[]int64) api.Prog {
	p := api.Prog{Costs: costs}
	for _, r := range rows {
		last := len(r) - 1
		p.Rows = append(p.Rows, api.Row{Of: r[:last:last], Most: r[last]})
	}
	return p
}

// full answers a program of so many variables and rows, with the same cost everywhere, and the same number everywhere in its rows.
func full(vars, rows int, cost, entry, most int64) api.Prog {
	p := api.Prog{Costs: slices.Repeat([]int64{cost}, vars)}
	for range rows {
		p.Rows = append(p.Rows, api.Row{Of: slices.Repeat([]int64{entry}, vars), Most: most})
	}
	return p
}

// sample is a program and its text.
type sample struct {
	p api.Prog
	s string
}

func samples() []sample {
	return []sample{
		{prog([]int64{1}, []int64{2, 3}), "most 1\n2 <= 3\n"},
		{prog([]int64{3, 2}, []int64{1, 1, 4}, []int64{1, 3, 6}), "most 3 2\n1 1 <= 4\n1 3 <= 6\n"},
		{prog([]int64{0}, []int64{0, 0}), "most 0\n0 <= 0\n"},
		{prog([]int64{-1}, []int64{-2, -3}), "most -1\n-2 <= -3\n"},
		{prog([]int64{10, -10, 100}, []int64{10, 0, -10, 11}), "most 10 -10 100\n10 0 -10 <= 11\n"},
		{prog([]int64{400, -400}, []int64{12, -12, 12}, []int64{-12, 12, -12}), "most 400 -400\n12 -12 <= 12\n-12 12 <= -12\n"},
		{prog([]int64{399, 20, -305, 7}, []int64{1, 2, 3, 4, 5}, []int64{6, 7, 8, 9, 10}, []int64{-1, 0, -2, 0, -3}, []int64{0, 0, 0, 0, -9}),
			"most 399 20 -305 7\n1 2 3 4 <= 5\n6 7 8 9 <= 10\n-1 0 -2 0 <= -3\n0 0 0 0 <= -9\n"},
		{full(4, 4, 400, 12, 12), "most 400 400 400 400\n" + strings.Repeat("12 12 12 12 <= 12\n", 4)},
		{full(4, 4, -400, -12, -12), "most -400 -400 -400 -400\n" + strings.Repeat("-12 -12 -12 -12 <= -12\n", 4)},
		{full(4, 1, 1, 1, 1), "most 1 1 1 1\n1 1 1 1 <= 1\n"},
		{full(1, 4, 1, 1, 1), "most 1\n1 <= 1\n1 <= 1\n1 <= 1\n1 <= 1\n"},
	}
}

// wrongProgs answers programs that may not be, each for one reason alone but for those that are wholly empty.
func wrongProgs() []api.Prog {
	out := []api.Prog{
		{}, {Costs: []int64{1}}, {Costs: []int64{1}, Rows: []api.Row{}}, {Rows: []api.Row{{Most: 1}}}, {Costs: []int64{}, Rows: []api.Row{{}}},
		prog([]int64{1}, []int64{1}), prog([]int64{1}, []int64{1, 1, 1}), prog([]int64{1, 1}, []int64{1, 1}),
		prog([]int64{1, 1}, []int64{1, 1, 1}, []int64{1, 1}), prog([]int64{1, 1}, []int64{1, 1, 1}, []int64{1, 1, 1, 1}),
		full(5, 1, 1, 1, 1), full(1, 5, 1, 1, 1), full(5, 5, 1, 1, 1), full(1, 0, 1, 1, 1), full(0, 1, 1, 1, 1), full(100, 100, 1, 1, 1),
		full(1, 1, math.MinInt64, 1, 1), full(1, 1, 1, math.MinInt64, 1), full(1, 1, 1, 1, math.MinInt64),
	}
	for _, far := range []int64{1, 1 << 31, 1 << 32, math.MaxInt64 - 400} {
		out = append(out,
			prog([]int64{400 + far, 1}, []int64{1, 1, 1}), prog([]int64{1, -400 - far}, []int64{1, 1, 1}),
			prog([]int64{1, 1}, []int64{12 + far, 1, 1}), prog([]int64{1, 1}, []int64{1, -12 - far, 1}),
			prog([]int64{1, 1}, []int64{1, 1, 1}, []int64{1, 1, 12 + far}), prog([]int64{1, 1}, []int64{1, 1, -12 - far}))
	}
	return out
}

// numbers answers a rule by which numbers from -limit to limit come, the same ones at each run.
func numbers(seed uint64) func(limit int64) int64 {
	return func(limit int64) int64 {
		seed = seed*6364136223846793005 + 1442695040888963407
		return int64(seed>>33)%(2*limit+1) - limit
	}
}

// mixed answers a program of numbers that come by a rule, no greater than may be.
func mixed(next func(int64) int64, vars, rows int) api.Prog {
	p := full(vars, rows, 0, 0, 0)
	for i := range p.Costs {
		p.Costs[i] = next(400)
	}
	for i := range p.Rows {
		p.Rows[i].Most = next(12)
		for j := range p.Rows[i].Of {
			p.Rows[i].Of[j] = next(12)
		}
	}
	return p
}

// Plain checks: the chapter by its words, with the library's patterns and printing.

const number = `(0|-?[1-9][0-9]{0,5})`

var (
	firstLine = regexp.MustCompile(`^most( ` + number + `)*$`)
	otherLine = regexp.MustCompile(`^(` + number + ` )*<= ` + number + `$`)
	anyNumber = regexp.MustCompile(`-?[0-9]+`)
)

// plainMay is B1.
func plainMay(p api.Prog) bool {
	may := len(p.Costs) >= 1 && len(p.Costs) <= 4 && len(p.Rows) >= 1 && len(p.Rows) <= 4
	for _, c := range p.Costs {
		may = may && -400 <= c && c <= 400
	}
	for _, r := range p.Rows {
		may = may && len(r.Of) == len(p.Costs)
		for _, n := range append([]int64{r.Most}, r.Of...) {
			may = may && -12 <= n && n <= 12
		}
	}
	return may
}

// plainPrint is the text of a program that may be.
func plainPrint(p api.Prog) string {
	inner := func(nums []int64) string { return strings.Trim(fmt.Sprint(nums), "[]") }
	s := "most " + inner(p.Costs) + "\n"
	for _, r := range p.Rows {
		s += fmt.Sprintf("%s <= %d\n", inner(r.Of), r.Most)
	}
	return s
}

// plainNumbers answers all numbers in a line that is as said.
func plainNumbers(line string) []int64 {
	var out []int64
	for _, w := range anyNumber.FindAllString(line, -1) {
		n, _ := strconv.ParseInt(w, 10, 64)
		out = append(out, n)
	}
	return out
}

// plainParse is I2's Parse.
func plainParse(s string) (api.Prog, api.Fault) {
	lines := strings.Split(s, "\n")
	last := len(lines) - 1
	var p api.Prog
	for i, line := range lines[:last] {
		pattern := otherLine
		if i == 0 {
			pattern = firstLine
		}
		if !pattern.MatchString(line) {
			return api.Prog{}, api.Fault{Code: api.ErrForm, At: i}
		}
		nums := plainNumbers(line)
		if i == 0 {
			p.Costs = nums
		} else {
			p.Rows = append(p.Rows, api.Row{Of: nums[:len(nums)-1], Most: nums[len(nums)-1]})
		}
	}
	if lines[last] != "" || !plainMay(p) {
		return api.Prog{}, api.Fault{Code: api.ErrForm, At: last}
	}
	return p, api.Fault{}
}

// same tells whether two programs are, be an empty list nil or not.
func same(a, b api.Prog) bool {
	return slices.Equal(a.Costs, b.Costs) && slices.EqualFunc(a.Rows, b.Rows, func(x, y api.Row) bool {
		return slices.Equal(x.Of, y.Of) && x.Most == y.Most
	})
}

// hold holds Parse to the plain check, at one text.
func hold(t *testing.T, s string) {
	t.Helper()
	want, wrong := plainParse(s)
	if p, f := Parse(s); f != wrong || !same(p, want) {
		t.Errorf("Parse(%.200q) is %v %v, not %v %v", s, p, f, want, wrong)
	}
}

// refuse tells whether Parse refuses s at a line, and answers nothing beside that.
func refuse(t *testing.T, s string, at int) {
	t.Helper()
	if p, f := Parse(s); f != (api.Fault{Code: api.ErrForm, At: at}) || len(p.Costs) != 0 || len(p.Rows) != 0 {
		t.Errorf("Parse(%.200q) is %v %v, not ErrForm at %d", s, p, f, at)
	}
}

func TestI1TextsOfPrograms(t *testing.T) {
	for _, x := range samples() {
		if s, wrong := Print(x.p); s != x.s || wrong != api.OK {
			t.Errorf("Print(%v) is %q %v, not %q", x.p, s, wrong, x.s)
		}
	}
}

func TestI1EachNumberAtEachPlace(t *testing.T) {
	for n := int64(-400); n <= 400; n++ {
		both(t, prog([]int64{n, 1}, []int64{1, 1, 1}))
		both(t, prog([]int64{1, n}, []int64{1, 1, 1}))
	}
	for n := int64(-12); n <= 12; n++ {
		both(t, prog([]int64{1, 1}, []int64{n, 1, 1}, []int64{1, 1, 1}))
		both(t, prog([]int64{1, 1}, []int64{1, 1, 1}, []int64{1, n, 1}))
		both(t, prog([]int64{1, 1}, []int64{1, 1, n}, []int64{1, 1, 1}))
	}
}

// both holds Print to the plain text, and Parse of it to the program.
func both(t *testing.T, p api.Prog) {
	t.Helper()
	s, wrong := Print(p)
	if s != plainPrint(p) || wrong != api.OK {
		t.Errorf("Print(%v) is %q %v", p, s, wrong)
	}
	if back, f := Parse(s); f != (api.Fault{}) || !same(back, p) {
		t.Errorf("Parse(%q) is %v %v, not %v", s, back, f, p)
	}
}

func TestI2WhatIsWrittenIsReadAsTheSame(t *testing.T) {
	for _, x := range samples() {
		both(t, x.p)
		if p, f := Parse(x.s); f != (api.Fault{}) || !same(p, x.p) {
			t.Errorf("Parse(%q) is %v %v, not %v", x.s, p, f, x.p)
		}
	}
	next := numbers(9)
	for i := range 20000 {
		both(t, mixed(next, 1+i%4, 1+i/4%4))
	}
}

func TestI2ProgramsThatMayNotBe(t *testing.T) {
	for _, p := range wrongProgs() {
		if s, wrong := Print(p); s != "" || wrong != api.ErrForm {
			t.Errorf("Print(%v) is %q %v", p, s, wrong)
		}
	}
}

func TestI2LinesThatAreNotAsSaid(t *testing.T) {
	for at, texts := range [][]string{
		{
			"most 1", "\n", " ", "x", "most", "\nmost 1\n1 <= 1\n", "1 <= 1\n", "1 <= 1\nmost 1\n", "most  1\n1 <= 1\n", "most 1 \n1 <= 1\n",
			" most 1\n1 <= 1\n", "most \n1 <= 1\n", "most1\n1 <= 1\n", "mos 1\n1 <= 1\n", "Most 1\n1 <= 1\n", "MOST 1\n1 <= 1\n", "least 1\n1 <= 1\n",
			"most most 1\n1 <= 1\n", "mostmost 1\n1 <= 1\n", "most 1 most\n1 <= 1\n", "most\t1\n1 <= 1\n", "most 1\t\n1 <= 1\n", "most 1\r\n1 <= 1\r\n", "most 1\v\n1 <= 1\n",
			"most 1\x00\n1 <= 1\n", "\ufeffmost 1\n1 <= 1\n", "most\u00a01\n1 <= 1\n", "most 1  1\n1 1 <= 1\n", "most 1,1\n1 1 <= 1\n",
			"most -0\n", "most 00\n1 <= 1\n", "most 01\n1 <= 1\n", "most -01\n1 <= 1\n", "most +1\n1 <= 1\n", "most +0\n1 <= 1\n", "most --1\n1 <= 1\n",
			"most -\n1 <= 1\n", "most - 1\n1 <= 1\n", "most 1-\n1 <= 1\n", "most 1-1\n1 <= 1\n", "most 1.0\n1 <= 1\n", "most 1e2\n1 <= 1\n", "most 0x1\n1 <= 1\n", "most 0b1\n1 <= 1\n",
			"most 1_0\n1 <= 1\n", "most a\n1 <= 1\n", "most \uff11\n1 <= 1\n", "most \u0661\n1 <= 1\n", "most 1 <= 1\n1 <= 1\n", "most <= 1\n1 <= 1\n",
			"most 1000000\n1 <= 1\n", "most -1000000\n1 <= 1\n", "most 0000001\n1 <= 1\n", "most 000001\n1 <= 1\n", "most 1 1 1 1 1 1 1 1 x\n1 <= 1\n",
			"most 9223372036854775808\n1 <= 1\n", "most 18446744073709551617\n1 <= 1\n", "most 4294967297\n1 <= 1\n", "most \xff\n1 <= 1\n",
		},
		{
			"most 1\n1 < 1\n", "most 1\n\n", "most 1\n\n1 <= 1\n", "most 1\n1 <= 1", "most 1\n1", "most 1\n ", "most 1\nmost 1\n", "most 1\nmost 1\n1 <= 1\n",
			"most 1\n1 <= 1\x00", "most 1\n1\n", "most 1\n1 1\n", "most 1\n1 <=\n", "most 1\n1 <= \n", "most 1\n<=\n", "most 1\n<= \n", "most 1\n <= 1\n", "most 1\n1 <=1\n", "most 1\n1<= 1\n", "most 1\n1<=1\n",
			"most 1\n1 <= 1 \n", "most 1\n 1 <= 1\n", "most 1\n1  <= 1\n", "most 1\n1 <=  1\n", "most 1\n1 <= 1 1\n", "most 1\n1 <= 1 <= 1\n", "most 1\n<= <= 1\n", "most 1\n1 <= <= 1\n", "most 1\n<= 1 <= 1\n",
			"most 1\n1 >= 1\n", "most 1\n1 = 1\n", "most 1\n1 =< 1\n", "most 1\n1 <== 1\n", "most 1\n1 < = 1\n", "most 1\n1 <<= 1\n", "most 1\n1 \u2264 1\n", "most 1\n1\t<= 1\n", "most 1\n1 <=\t1\n", "most 1\n1 <= 1\r\n",
			"most 1\n-0 <= 1\n", "most 1\n1 <= -0\n", "most 1\n01 <= 1\n", "most 1\n1 <= 01\n", "most 1\n1 <= +1\n", "most 1\n+1 <= 1\n", "most 1\n1 <= x\n", "most 1\nx <= 1\n", "most 1\n1 <= -\n", "most 1\n- <= 1\n",
			"most 1\n1000000 <= 1\n", "most 1\n1 <= 1000000\n", "most 1\n-1000000 <= 1\n", "most 1\n1 <= -1000000\n", "most 1\n1 <= 9223372036854775808\n", "most 1\n18446744073709551617 <= 1\n",
			"most 1\n1 1 1 1 1 1 1 1 x <= 1\n", "most 1\n1 <= 1_0\n",
			// A program that may not be, for what stands in the lines ahead, does not come first.
			"most\n1 < 1\n", "most 999999\nx\n", "most 1 1 1 1 1\n1\n", "most 401\n1 <= 1",
		},
		{
			"most 1\n1 <= 1\n\n", "most 1\n1 <= 1\n ", "most 1\n1 <= 1\n1 <= 1", "most 1\n1 <= 1\nmost 1\n", "most 1\n1 <= 1\nx", "most 1\n1 1 <= 1\nx\n", "most 1\n13 <= 1\n1 < 1\n", "most 401\n1 <= 1\n1\nx\n", "most 1\n1 <= 1\n\x00",
		},
	} {
		for _, s := range texts {
			refuse(t, s, at)
			hold(t, s)
		}
	}
}

func TestI2ProgramsThatMayNotBeAsText(t *testing.T) {
	for at, texts := range [][]string{
		{""},
		{"most 1\n", "most\n", "most 999999\n", "most -999999\n", "most 1 1 1 1 1\n"},
		{
			"most 1\n1 1 <= 1\n", "most 1 1\n1 <= 1\n", "most\n1 <= 1\n", "most\n<= 1\n", "most 1\n<= 1\n", "most 401\n1 <= 1\n", "most -401\n1 <= 1\n",
			"most 1\n13 <= 1\n", "most 1\n-13 <= 1\n", "most 1\n1 <= 13\n", "most 1\n1 <= -13\n", "most 999999\n1 <= 1\n", "most -999999\n1 <= 1\n", "most 100000\n1 <= 1\n",
			"most 1\n999999 <= 1\n", "most 1\n-999999 <= 1\n", "most 1\n1 <= 999999\n", "most 1\n1 <= -999999\n", "most 1 1 1 1 1\n1 1 1 1 1 <= 1\n",
			"most 1 1 1 1\n1 1 1 1 1 <= 1\n", "most 1 1 1 1 1\n1 1 1 1 <= 1\n",
		},
		{"most 1\n1 <= 1\n1 1 <= 1\n", "most 1\n1 1 <= 1\n1 <= 1\n", "most 1\n<= 1\n1 <= 1\n", "most 1\n1 <= 1\n1 <= 13\n"},
	} {
		for _, s := range texts {
			refuse(t, s, at)
			hold(t, s)
		}
	}
	for rows := 5; rows <= 12; rows++ {
		refuse(t, "most 1\n"+strings.Repeat("1 <= 1\n", rows), 1+rows)
	}
	for many := 5; many <= 12; many++ {
		refuse(t, "most"+strings.Repeat(" 1", many)+"\n"+strings.Repeat("1 ", many)+"<= 1\n", 2)
	}
}

func TestI2EachByteChanged(t *testing.T) {
	for _, x := range samples() {
		for i := range len(x.s) + 1 {
			hold(t, x.s[:i])
			hold(t, x.s[i:])
			for b := range 256 {
				c := string([]byte{byte(b)})
				hold(t, x.s[:i]+c+x.s[i:])
				if i < len(x.s) {
					hold(t, x.s[:i]+c+x.s[i+1:])
				}
			}
			for j := i; j <= len(x.s); j++ {
				hold(t, x.s[:i]+x.s[j:])
			}
		}
	}
}

// each calls do with all texts of up to so many of the parts, one behind the other.
func each(parts []string, many int, text string, do func(string)) {
	do(text)
	if many == 0 {
		return
	}
	for _, part := range parts {
		each(parts, many-1, text+part, do)
	}
}

func TestI2AllShortTexts(t *testing.T) {
	check := func(s string) { hold(t, s) }
	each([]string{"most", " ", "1", "0", "-", "<=", "\n"}, 6, "", check)
	each([]string{" ", "1", "0", "-", "<=", "\n"}, 6, "most 1", check)
	each([]string{"most 7", " 1", "2 ", "<= 3", "-", "0", "999999", "\n"}, 5, "", check)
	each([]string{" 1", "1 <= 1", "2 ", "<= 3", "0", "\n"}, 5, "most 7\n", check)
	each([]string{"most 7\n", "most -400\n", "most\n", "most 7 7\n", "2 <= 3\n", "2 2 <= 3\n", "<= 3\n", "\n", "x"}, 5, "", check)
}

// Long texts: what is answered takes no longer than the text is.
func TestI2LongTexts(t *testing.T) {
	const many = 1 << 20
	refuse(t, "most"+strings.Repeat(" 1", many)+"\n", 1)
	refuse(t, "most 1\n"+strings.Repeat("1 ", many)+"<= 1\n", 2)
	refuse(t, "most 1\n"+strings.Repeat("1 <= 1\n", many), 1+many)
	refuse(t, "most 1\n"+strings.Repeat("1 <= 1\n", many)+"1 < 1\n", 1+many)
	refuse(t, "most 1\n"+strings.Repeat("1 <= 1\n", many)+"1 <= 1", 1+many)
	refuse(t, "most"+strings.Repeat(" 1", many)+" x\n", 0)
	refuse(t, "most "+strings.Repeat("1", many)+"\n", 0)
	refuse(t, "most 1\n"+strings.Repeat("0", many)+"1 <= 1\n", 1)
	refuse(t, strings.Repeat(" ", many), 0)
	refuse(t, strings.Repeat("\n", many), 0)
	refuse(t, "most 1\n1 "+strings.Repeat("<= ", many)+"1\n", 1)
}

func TestP3WhatIsHandedInStays(t *testing.T) {
	behind := func(nums ...int64) []int64 { return append(nums, 77, 78)[:len(nums)] }
	make1 := func() api.Prog {
		rows := []api.Row{{Of: behind(1, 2), Most: 3}, {Of: behind(-4, 5), Most: -6}, {Of: behind(9, 9), Most: 9}}
		return api.Prog{Costs: behind(7, -8), Rows: rows[:2]}
	}
	whole := func(p api.Prog) string {
		s := fmt.Sprint(p.Costs[:4])
		for _, r := range p.Rows[:3] {
			s += fmt.Sprint(r.Of[:4], r.Most)
		}
		return s
	}
	p := make1()
	if s, wrong := Print(p); s != "most 7 -8\n1 2 <= 3\n-4 5 <= -6\n" || wrong != api.OK {
		t.Errorf("%q %v", s, wrong)
	}
	if whole(p) != whole(make1()) {
		t.Error("changed:", p)
	}
}

func TestP3WhatComesOutIsNew(t *testing.T) {
	const s = "most 1 2\n3 4 <= 5\n6 7 <= 8\n"
	first, _ := Parse(s)
	second, _ := Parse(s)
	if !reflect.DeepEqual(first, second) {
		t.Error("not the same again:", first, second)
	}
	lists := [][]int64{first.Costs, first.Rows[0].Of, first.Rows[1].Of, second.Costs, second.Rows[0].Of, second.Rows[1].Of}
	for i, l := range lists {
		l = l[:cap(l)]
		for j := range l {
			l[j] = int64(100 + i)
		}
	}
	for i, l := range lists {
		if l[0] != int64(100+i) || l[1] != int64(100+i) {
			t.Error("shared:", lists)
		}
	}
	first.Rows[0].Most = 9
	if second.Rows[0].Most != 5 {
		t.Error("rows are shared")
	}
	if third, f := Parse(s); f != (api.Fault{}) || !same(third, prog([]int64{1, 2}, []int64{3, 4, 5}, []int64{6, 7, 8})) {
		t.Error("kept:", third, f)
	}
}
