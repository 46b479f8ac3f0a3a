package drive

import (
	"fmt"
	"math/big"
	"regexp"
	"strconv"
	"strings"
	"testing"

	"cornerwalk/api"
	"cornerwalk/corner"
	"cornerwalk/solve"
	"cornerwalk/sweep"
	"cornerwalk/text"
	"cornerwalk/walk"
)

// talk is the lines of a script, one behind the other, and what each of them is to be answered.
type talk [][2]string

// check plays the lines, and holds each answer to what it is to be.
func check(t *testing.T, lines talk) {
	t.Helper()
	var script, want strings.Builder
	for _, l := range lines {
		script.WriteString(l[0] + "\n")
		want.WriteString(l[1] + "\n")
	}
	got := Play(script.String())
	if got == want.String() {
		return
	}
	answers := strings.Split(got, "\n")
	for i, l := range lines {
		if i >= len(answers) || answers[i] != l[1] {
			t.Errorf("line %d, %q, of %.300q: all answers are %.300q, not %.300q", i, l[0], script.String(), got, want.String())
			return
		}
	}
	t.Errorf("answers of %.300q are %.300q, not %.300q", script.String(), got, want.String())
}

// taken answers the lines by which the program of these lines of text is taken.
func taken(lines ...string) talk {
	out, size := talk{{"fresh", "ok"}}, 0
	for _, l := range lines {
		size += len(l) + 1
		out = append(out, [2]string{"= " + l, fmt.Sprint("ok ", size)})
	}
	return append(out, [2]string{"take", fmt.Sprint("ok ", len(lines)-1)})
}

// plot is the program of the chapters' plain corners: two variables, two rows.
func plot() talk { return taken("most 3 2", "1 1 <= 4", "1 3 <= 6") }

// Plain checks: the chapter by its words, with the library's patterns, printing and big fractions, and the layers above.

const digits = `(0|-?[1-9][0-9]{0,5})`

var asking = regexp.MustCompile(`\A(look|walk|sweep)(( ` + digits + `)*)\z`)

// plainPlayer is J1's text and program.
type plainPlayer struct {
	text string
	prog *api.Prog
}

// plainPlay is J1.
func plainPlay(script string) string {
	lines := strings.Split(script, "\n")
	if lines[len(lines)-1] == "" {
		lines = lines[:len(lines)-1]
	}
	var p plainPlayer
	out := ""
	for i, line := range lines {
		if i < 60 {
			out += p.line(line) + "\n"
		}
	}
	return out
}

// line is J2.
func (p *plainPlayer) line(line string) string {
	asked := asking.FindStringSubmatch(line)
	switch {
	case strings.HasPrefix(line, "= "):
		p.text += line[2:] + "\n"
		return fmt.Sprintf("ok %d", len(p.text))
	case line == "fresh":
		p.text = ""
		return "ok"
	case line == "take":
		prog, fault := text.Parse(p.text)
		if fault.Code != api.OK {
			return fmt.Sprintf("bad %d", fault.At)
		}
		p.prog = &prog
		return fmt.Sprintf("ok %d", len(prog.Rows))
	case line != "solve" && line != "show" && asked == nil:
		return "?"
	case p.prog == nil:
		return "none"
	case line == "solve":
		a, _ := solve.Solve(*p.prog)
		if a.Kind == api.Best {
			return fmt.Sprintf("best %d/%d", a.Worth.Num, a.Worth.Den)
		}
		return map[int]string{api.Endless: "endless", api.Nothing: "nothing"}[a.Kind]
	case line == "show":
		s, _ := text.Print(*p.prog)
		return fmt.Sprint(len(s))
	}
	return p.asked(asked[1], strings.Fields(asked[2]))
}

// asked is J2 of the lines with numbers.
func (p *plainPlayer) asked(word string, nums []string) string {
	var at []int
	var by []int64
	for _, w := range nums {
		n, _ := strconv.Atoi(w)
		at, by = append(at, n), append(by, int64(n))
	}
	switch word {
	case "look":
		c, wrong := corner.Look(*p.prog, at)
		if wrong != api.OK {
			return fmt.Sprintf("bad %d", wrong)
		}
		return p.looked(c)
	case "walk":
		all, kind, wrong := walk.Walk(*p.prog, at)
		if wrong != api.OK {
			return fmt.Sprintf("bad %d", wrong)
		}
		return fmt.Sprint(map[int]string{api.Best: "best ", api.Endless: "endless "}[kind], len(all))
	}
	pieces, wrong := sweep.Sweep(*p.prog, by)
	if wrong != api.OK {
		return fmt.Sprintf("bad %d", wrong)
	}
	out := fmt.Sprint(len(pieces))
	for _, x := range pieces {
		out += fmt.Sprintf(" %d/%d %d/%d", x.Base.Num, x.Base.Den, x.Slope.Num, x.Slope.Den)
	}
	return out
}

// looked is what look says of a corner.
func (p *plainPlayer) looked(c api.Corner) string {
	goes, worth := "goes", new(big.Rat)
	for j, n := range c.X.Nums {
		if n < 0 {
			goes = "not"
		}
		if j < len(p.prog.Costs) {
			worth.Add(worth, new(big.Rat).Mul(big.NewRat(p.prog.Costs[j], 1), big.NewRat(n, c.X.Den)))
		}
	}
	return goes + " " + worth.String()
}

// hold holds Play to the plain check, at one script.
func hold(t *testing.T, script string) {
	t.Helper()
	if got, want := Play(script), plainPlay(script); got != want {
		t.Errorf("Play(%.300q) is %.300q, not %.300q", script, got, want)
	}
}

// begins holds Play to J3, at all beginnings of one script.
func begins(t *testing.T, script string) {
	t.Helper()
	whole := Play(script)
	for i := range len(script) {
		if script[i] == '\n' && !strings.HasPrefix(whole, Play(script[:i+1])) {
			t.Errorf("Play(%.300q) is %.300q, and begins not with %.300q", script, whole, Play(script[:i+1]))
		}
	}
}

// numbers answers a rule by which numbers from -limit to limit come, the same ones at each run.
func numbers(seed uint64) func(limit int64) int64 {
	return func(limit int64) int64 {
		seed = seed*6364136223846793005 + 1442695040888963407
		return int64(seed>>33)%(2*limit+1) - limit
	}
}

// row answers so many numbers that come by a rule, as words.
func row(next func(int64) int64, many int, limit int64) string {
	words := make([]string, many)
	for i := range words {
		words[i] = fmt.Sprint(next(limit))
	}
	return strings.Join(words, " ")
}

// choices answers all choices of many of the numbers from least to below end, rising, as words with a blank ahead.
func choices(least, end, many int) []string {
	if many == 0 {
		return []string{""}
	}
	var out []string
	for j := least; j < end; j++ {
		for _, rest := range choices(j+1, end, many-1) {
			out = append(out, fmt.Sprint(" ", j)+rest)
		}
	}
	return out
}

func TestJ1Lines(t *testing.T) {
	for _, x := range [][2]string{
		{"", ""}, {"\n", "?\n"}, {"\n\n", "?\n?\n"}, {"x", "?\n"}, {"x\n", "?\n"}, {"x\n\n", "?\n?\n"}, {"\nx", "?\n?\n"},
		{"fresh", "ok\n"}, {"fresh\n", "ok\n"}, {"fresh\nfresh", "ok\nok\n"}, {"fresh\n\nfresh\n", "ok\n?\nok\n"},
		{"fresh\r\n", "?\n"}, {"fresh\rfresh", "?\n"}, {"fresh\x00", "?\n"}, {"fresh\n ", "ok\n?\n"}, {"fresh\u2028fresh", "?\n"},
		{"= a", "ok 2\n"}, {"= a\n= b", "ok 2\nok 4\n"}, {"= most 1\n= 2 <= 3\ntake\nsolve", "ok 7\nok 14\nok 1\nbest 3/2\n"},
	} {
		if got := Play(x[0]); got != x[1] {
			t.Errorf("Play(%q) is %q, not %q", x[0], got, x[1])
		}
		hold(t, x[0])
	}
}

func TestJ1TheFirst60LinesCount(t *testing.T) {
	for lines := range 130 {
		count := min(lines, 60)
		for line, answer := range map[string]string{"fresh": "ok\n", "": "?\n", "solve": "none\n"} {
			script := strings.Repeat(line+"\n", lines)
			if got := Play(script); got != strings.Repeat(answer, count) {
				t.Errorf("%d lines %q: %q", lines, line, got)
			}
			more := strings.Repeat(answer, min(lines+1, 60))
			if got := Play(script + line); line != "" && got != more {
				t.Errorf("%d lines %q and one without a byte 10: %q", lines, line, got)
			}
		}
	}
	// A line that has nothing behind it counts, and one that is not as said counts, too.
	end := "= most 1\n= 2 <= 3\ntake\nsolve\nshow\n"
	for ahead := 50; ahead <= 62; ahead++ {
		all := append(strings.SplitAfter("ok 7\nok 14\nok 1\nbest 3/2\n14\n", "\n"), "")
		want := strings.Repeat("?\n", min(ahead, 60)) + strings.Join(all[:max(0, min(5, 60-ahead))], "")
		if got := Play(strings.Repeat("\n", ahead) + end); got != want {
			t.Errorf("%d lines ahead: %q, not %q", ahead, got, want)
		}
	}
	if got := Play(strings.Repeat("fresh\n", 1<<20)); got != strings.Repeat("ok\n", 60) {
		t.Errorf("very many lines: %.300q", got)
	}
}

func TestJ1Numbers(t *testing.T) {
	fine := []string{"0", "1", "-1", "9", "-9", "10", "-10", "100", "999999", "-999999", "100000", "-100000", "5 5 5", "0 0", "-1 -1"}
	wrong := []string{
		"", " ", " 1", "1 ", "1  1", "-0", "00", "01", "-01", "000001", "0000001", "-00", "+1", "+0", "--1", "-", "- 1", "1-", "1-1", "1,1", "1.0", "1/1", "1e2", "0x1", "1_0",
		"x", "1 x", "x 1", "1000000", "-1000000", "1234567", "9223372036854775808", "18446744073709551617", "-9223372036854775809", "4294967297",
		"1\t", "\t1", "1\t1", "1\r", "\uff11", "\u0661", "1\u00a01", "1\x00", "\xff", "1 1 1 1 1 1 1 1 1 -0", "0 0 0 0 0 1000000", "0 0 0 0 0 0 ", "0 0 0 0 0  0",
	}
	// Of this program all of these are too few: that tells them from what is no line.
	full := taken("most 1 1 1 1", "1 1 1 1 <= 1", "1 1 1 1 <= 1", "1 1 1 1 <= 1", "1 1 1 1 <= 1")
	for word, answer := range map[string]string{"look": "bad 3", "walk": "bad 3", "sweep": "bad 1"} {
		for _, w := range fine {
			check(t, append(full, [2]string{word + " " + w, answer}))
			check(t, talk{{word + " " + w, "none"}})
		}
		for _, w := range wrong {
			check(t, append(plot(), [2]string{word + " " + w, "?"}))
			check(t, talk{{word + " " + w, "?"}})
		}
	}
	check(t, append(taken("most 1", "1 <= 1"), talk{
		{"look 0", "goes 1/1"}, {"look 1", "goes 0/1"}, {"look 2", "bad 3"}, {"look -1", "bad 3"}, {"look", "bad 3"}, {"look ", "?"}, {"look 0 ", "?"}, {"look  0", "?"},
		{"sweep 400", "2 0/1 0/1 1/1 400/1"}, {"sweep -400", "2 1/1 -400/1 0/1 0/1"}, {"sweep 401", "bad 1"}, {"sweep 0", "1 1/1 0/1"}, {"sweep 00", "?"},
	}...))
}

func TestJ2Texts(t *testing.T) {
	check(t, talk{
		{"= ", "ok 1"}, {"= ", "ok 2"}, {"=  ", "ok 4"}, {"= = ", "ok 7"}, {"= fresh", "ok 13"}, {"=", "?"}, {"=x", "?"}, {" = x", "?"}, {"== x", "?"}, {"=\tx", "?"},
		{"= \r", "ok 15"}, {"= \x00\xff\xfe", "ok 19"}, {"= \u20ac", "ok 23"}, {"fresh", "ok"}, {"= ", "ok 1"}, {"fresh", "ok"}, {"fresh", "ok"}, {"= x", "ok 2"},
	})
	check(t, talk{{"= " + strings.Repeat("x", 1<<20), fmt.Sprint("ok ", 1<<20+1)}, {"= y", fmt.Sprint("ok ", 1<<20+3)}, {"take", "bad 0"}})
}

func TestJ2Take(t *testing.T) {
	check(t, talk{
		{"take", "bad 0"}, {"show", "none"}, {"= most 3 2", "ok 9"}, {"take", "bad 1"}, {"= 1 1 <= 4", "ok 18"}, {"take", "ok 1"}, {"show", "18"}, {"solve", "best 12/1"},
		// The program is what it was when it was taken, not what the text is since.
		{"= 1 3 <= 3", "ok 27"}, {"show", "18"}, {"solve", "best 12/1"}, {"take", "ok 2"}, {"show", "27"}, {"solve", "best 9/1"},
		// Where nothing is taken, the program stays.
		{"= 1 3 < 3", "ok 35"}, {"take", "bad 3"}, {"show", "27"}, {"solve", "best 9/1"}, {"fresh", "ok"}, {"show", "27"}, {"take", "bad 0"}, {"show", "27"}, {"solve", "best 9/1"},
		{"= most 1", "ok 7"}, {"= 2 <= 3", "ok 14"}, {"solve", "best 9/1"}, {"take", "ok 1"}, {"solve", "best 3/2"}, {"show", "14"}, {"take", "ok 1"}, {"show", "14"},
		{"= 0 <= 0", "ok 21"}, {"= 0 <= 0", "ok 28"}, {"= 0 <= 0", "ok 35"}, {"take", "ok 4"}, {"show", "35"}, {"= 0 <= 0", "ok 42"}, {"take", "bad 6"}, {"show", "35"},
	})
	for text, answer := range map[string]string{
		"most": "bad 1", "most 1": "bad 1", "Most 1\n1 <= 1": "bad 0", "most 1\n1 <= 13": "bad 2", "most 401\n1 <= 1": "bad 2", "most 1\n1 <= 1\n": "bad 2", "\nmost 1\n1 <= 1": "bad 0",
		"most 400 -400 400 -400\n12 -12 12 -12 <= -12": "ok 1", "most 1\n1 <= 1\n1 1 <= 1": "bad 3", "most 1\n1 <= -0": "bad 1", "most 1\n1 <= 1 ": "bad 1", "most 1\n1 <= 1\r": "bad 1",
	} {
		script := "= " + strings.ReplaceAll(text, "\n", "\n= ") + "\ntake\n"
		if got := Play(script); !strings.HasSuffix(got, "\n"+answer+"\n") {
			t.Errorf("Play(%q) is %q, and ends not with %q", script, got, answer)
		}
		hold(t, script)
	}
}

func TestJ2NoneWithoutAProgram(t *testing.T) {
	lines := talk{{"solve", "none"}, {"look", "none"}, {"look 0 1", "none"}, {"walk", "none"}, {"walk -5", "none"}, {"sweep", "none"}, {"sweep 1 2 3 4 5", "none"}, {"show", "none"}, {"look -0", "?"}, {"solve 1", "?"}}
	check(t, lines)
	check(t, append(talk{{"= most 1", "ok 7"}}, lines...))
	check(t, append(talk{{"= most 1", "ok 7"}, {"= 1 <= 1", "ok 14"}}, lines...))
	check(t, append(talk{{"= most 1", "ok 7"}, {"take", "bad 1"}}, lines...))
	check(t, append(talk{{"take", "bad 0"}, {"fresh", "ok"}}, lines...))
}

func TestJ2Solve(t *testing.T) {
	for answer, programs := range map[string][][]string{
		"best 3/2":     {{"most 1", "2 <= 3"}},
		"best 12/1":    {{"most 3 2", "1 1 <= 4", "1 3 <= 6"}},
		"best 0/1":     {{"most 0", "0 <= 0"}, {"most -1", "1 <= 5"}, {"most 1", "1 <= 0"}},
		"best -2/1":    {{"most -1", "-1 <= -2"}},
		"best -5/3":    {{"most -1 -1", "-3 -3 <= -5"}},
		"best 4800/1":  {{"most 400", "1 <= 12"}},
		"best -4800/1": {{"most -400", "-1 <= -12"}},
		"endless":      {{"most 1", "0 <= 0"}, {"most 1", "-1 <= -12"}, {"most -5 1", "1 0 <= 3"}},
		"nothing":      {{"most 1", "1 <= -1"}, {"most 1", "0 <= -1"}, {"most -1", "1 <= 2", "-1 <= -3"}},
	} {
		for _, lines := range programs {
			check(t, append(taken(lines...), talk{{"solve", answer}, {"solve ", "?"}, {"solve 0", "?"}, {"Solve", "?"}, {" solve", "?"}, {"solve", answer}}...))
		}
	}
}

func TestJ2Look(t *testing.T) {
	check(t, append(plot(), talk{
		{"look 0 1", "goes 11/1"}, {"look 0 2", "not 18/1"}, {"look 0 3", "goes 12/1"}, {"look 1 2", "goes 4/1"}, {"look 1 3", "not 8/1"}, {"look 2 3", "goes 0/1"},
		{"look 1 1", "bad 3"}, {"look 1 0", "bad 3"}, {"look", "bad 3"}, {"look 0", "bad 3"}, {"look 0 1 2", "bad 3"}, {"look 0 1 2 3 4 5 6", "bad 3"}, {"look 0 4", "bad 3"}, {"look -1 0", "bad 3"}, {"look 0 999999", "bad 3"},
	}...))
	check(t, append(taken("most 1 2", "2 4 <= 3", "1 2 <= 0"), talk{{"look 0 1", "bad 4"}, {"look 0 2", "goes 0/1"}, {"look 0 3", "not 3/2"}}...))
	// A variable below 0 is no less below 0 than what is left of a row; what they are worth may be below 0 where the corner goes.
	check(t, append(taken("most -7", "-4 <= -6"), talk{{"look 0", "goes -21/2"}, {"look 1", "not 0/1"}}...))
	check(t, append(taken("most 7", "4 <= -6"), talk{{"look 0", "not -21/2"}, {"look 1", "not 0/1"}}...))
	// The point of all columns has a Den that that of the variables alone has not.
	check(t, append(taken("most 2 0", "2 0 <= 4", "0 3 <= 4"), talk{{"look 0 1", "goes 4/1"}, {"look 1 2", "goes 0/1"}}...))
}

func TestJ2Walk(t *testing.T) {
	check(t, append(plot(), talk{
		{"walk 2 3", "best 2"}, {"walk 1 2", "best 3"}, {"walk 0 1", "best 2"}, {"walk 0 3", "best 1"}, {"walk 0 2", "bad 3"}, {"walk 1 3", "bad 3"},
		{"walk", "bad 3"}, {"walk 0", "bad 3"}, {"walk 3 2", "bad 3"}, {"walk 2 2", "bad 3"}, {"walk 2 4", "bad 3"}, {"walk 0 1 2", "bad 3"}, {"walk -1 2", "bad 3"}, {"walk ", "?"}, {"walks 2 3", "?"}, {"walk2 3", "?"},
	}...))
	check(t, append(taken("most 1 2", "2 4 <= 3", "1 2 <= 0"), talk{{"walk 0 1", "bad 4"}, {"walk 0 3", "bad 3"}}...))
	check(t, append(taken("most 1", "-1 <= 2"), talk{{"walk 1", "endless 1"}, {"walk 0", "bad 3"}}...))
	check(t, append(taken("most 1 1", "1 -1 <= 2"), talk{{"walk 2", "endless 2"}, {"walk 0", "endless 1"}}...))
}

func TestJ2Sweep(t *testing.T) {
	check(t, append(plot(), talk{
		{"sweep -1 0", "3 12/1 -4/1 11/1 -3/1 4/1 0/1"}, {"sweep 1 0", "3 4/1 0/1 11/1 3/1 12/1 4/1"}, {"sweep 0 0", "1 12/1 0/1"},
		{"sweep", "bad 1"}, {"sweep 1", "bad 1"}, {"sweep 1 0 0", "bad 1"}, {"sweep 1 0 0 0 0 0 0", "bad 1"}, {"sweep 401 0", "bad 1"}, {"sweep 0 -401", "bad 1"}, {"sweep ", "?"}, {"sweep 1 0 ", "?"}, {"sweep 1 -0", "?"},
	}...))
	check(t, append(taken("most 1", "1 <= 3"), talk{{"sweep 1", "2 0/1 0/1 3/1 3/1"}}...))
	check(t, append(taken("most 1", "2 <= 3"), talk{{"sweep 1", "2 0/1 0/1 3/2 3/2"}, {"sweep -2", "2 3/2 -3/1 0/1 0/1"}}...))
	check(t, append(taken("most 1", "0 <= 0"), talk{{"sweep 0", "0"}, {"sweep 1", "1 0/1 0/1"}, {"sweep", "bad 1"}}...))
	check(t, append(taken("most 1", "1 <= -1"), talk{{"sweep 1", "bad 4"}, {"sweep 1 1", "bad 1"}, {"sweep 401", "bad 1"}}...))
}

func TestJ2Show(t *testing.T) {
	check(t, append(plot(), talk{{"show", "27"}, {"show ", "?"}, {"show 1", "?"}, {"= x", "ok 29"}, {"show", "27"}, {"fresh", "ok"}, {"show", "27"}}...))
	check(t, append(taken("most 400 -400 400 -400", "-12 -12 -12 -12 <= -12", "0 0 0 0 <= 0"), talk{{"show", "59"}}...))
}

func TestJ2AnyOtherLine(t *testing.T) {
	for _, line := range []string{
		"", " ", "?", "ok", "none", "x", "0", "-", "look0", "look-1", "look\t0", "Look 0", "LOOK 0", "look 0,1", "looks", "walk\t", "sweeps", "sweep=1", " look 0", "fresh ", " fresh", "Fresh", "fresh 1", "take ", "take 1", " take", "takes",
		"fresh take", "solve show", "most 1", "1 <= 1", "best", "\x00", "\xff\xfe", "\ufefffresh", "look look 0", "lookwalk 0", "loo 0", "=", "=fresh", "fresh=", "1 look", "x 1", " 1",
	} {
		check(t, talk{{line, "?"}})
		check(t, append(plot(), talk{{line, "?"}, {"show", "27"}, {"= x", "ok 29"}}...))
	}
}

// asked answers lines by which a program of so many variables and rows is asked all that can be asked of it, as far as they count.
func asked(next func(int64) int64, vars, rows int) []string {
	var out []string
	for _, at := range choices(0, vars+rows, rows) {
		out = append(out, "look"+at, "walk"+at)
	}
	for range 6 {
		out = append(out, "sweep "+row(next, vars, 9), "sweep "+row(next, vars, 400))
	}
	return append(out, "solve", "show", "sweep"+strings.Repeat(" 0", vars), "sweep"+strings.Repeat(" 0", vars+1), "look"+strings.Repeat(" 0", rows-1))
}

func TestJ2MixedPrograms(t *testing.T) {
	next := numbers(10)
	for i := range 600 {
		vars, rows := 1+i%4, 1+i/4%4
		entry, cost := int64(1+i%12), int64(1+i*7%400)
		lines := "= most " + row(next, vars, cost) + "\n"
		for range rows {
			lines += "= " + row(next, vars, entry) + " <= " + row(next, 1, entry) + "\n"
		}
		questions := asked(next, vars, rows)
		for len(questions) > 0 {
			some := min(len(questions), 50)
			script := lines + "take\n" + strings.Join(questions[:some], "\n")
			hold(t, script)
			questions = questions[some:]
		}
	}
}

// pool are lines of all kinds, that make programs of several sizes, and lines that are wrong.
func pool() []string {
	return []string{
		"= most 3 2", "= 1 1 <= 4", "= 1 3 <= 6", "= most 1", "= 2 <= 3", "= -1 <= 2", "= 1 <= -1", "= ", "= x", "fresh", "take", "take", "take", "solve", "show",
		"look 0", "look 1", "look 0 1", "look 0 2", "look 2 3", "look", "walk 0", "walk 1", "walk 2 3", "walk 0 2", "walk", "sweep 1", "sweep -1 0", "sweep 401", "sweep", "", "x", "look -0", "take ",
	}
}

func TestJ2AllShortScripts(t *testing.T) {
	lines := pool()
	for _, a := range lines {
		hold(t, a)
		for _, b := range lines {
			hold(t, a+"\n"+b+"\n")
			for _, c := range lines {
				hold(t, "= most 1\n= 2 <= 3\n"+a+"\n"+b+"\n"+c)
			}
		}
	}
}

func TestJ2EachByteChanged(t *testing.T) {
	script := "= most 3 2\n= 1 1 <= 4\n= 1 3 <= 6\ntake\nsolve\nlook 0 1\nlook 0 2\nwalk 2 3\nsweep -1 0\nfresh\nshow\nwalk -0"
	for i := range len(script) + 1 {
		hold(t, script[:i])
		hold(t, script[i:])
		for b := range 256 {
			c := string([]byte{byte(b)})
			hold(t, script[:i]+c+script[i:])
			if i < len(script) {
				hold(t, script[:i]+c+script[i+1:])
			}
		}
		for j := i; j <= len(script); j++ {
			hold(t, script[:i]+script[j:])
		}
	}
}

func TestJ2LongLines(t *testing.T) {
	const many = 1 << 20
	for _, x := range [][2]string{
		{"look" + strings.Repeat(" 0", many), "bad 3"}, {"walk" + strings.Repeat(" 0", many), "bad 3"}, {"sweep" + strings.Repeat(" 0", many), "bad 1"},
		{"look" + strings.Repeat(" 0", many) + " x", "?"}, {"sweep" + strings.Repeat(" 0", many) + " ", "?"}, {"look " + strings.Repeat("1", many), "?"}, {"look " + strings.Repeat("0", many), "?"},
		{strings.Repeat("look ", many), "?"}, {strings.Repeat(" ", many), "?"}, {strings.Repeat("=", many), "?"}, {"x" + strings.Repeat(" 0", many), "?"}, {"look" + strings.Repeat(" ", many), "?"},
	} {
		check(t, append(plot(), x, [2]string{"show", "27"}))
	}
}

func TestJ3BeginningsOfScripts(t *testing.T) {
	for _, script := range []string{
		"", "\n", "\n\n\n", "x", "fresh\nfresh", "= most 3 2\n= 1 1 <= 4\n= 1 3 <= 6\ntake\nsolve\nlook 0 1\nlook 0 2\nwalk 2 3\nsweep -1 0\nlook 1 1\nshow\nwalk -0",
		"solve\n= most 1\ntake\n= 2 <= 3\ntake\nsolve\n", strings.Repeat("= \n", 100), strings.Repeat("take\nfresh\n", 40) + "show",
	} {
		begins(t, script)
	}
	next := numbers(3)
	lines := pool()
	for range 1500 {
		var script strings.Builder
		for range 35 + next(35) {
			script.WriteString(lines[(next(1<<20)+1<<20)%int64(len(lines))] + "\n")
		}
		begins(t, script.String())
		hold(t, script.String())
	}
}

func TestP3TheSameScriptHasTheSameAnswer(t *testing.T) {
	const script = "= most 3 2\n= 1 1 <= 4\n= 1 3 <= 6\ntake\nsolve\nsweep 1 0\n"
	first := Play(script)
	for range 20 {
		// Nothing is kept from one script to the next one.
		if got := Play("solve\ntake\nshow\n= x\n"); got != "none\nbad 0\nnone\nok 2\n" {
			t.Errorf("kept: %q", got)
		}
		if got := Play(script); got != first {
			t.Errorf("%q, not %q", got, first)
		}
	}
}
