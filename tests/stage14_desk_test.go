package tests

import (
	"fmt"
	"math"
	"regexp"
	"slices"
	"strconv"
	"strings"
	"sync"
	"testing"
	"unicode/utf8"

	"loop.example/g00185/impl"
)

// lineForm is a word, its Kind, and what stands behind it: N for No, C for Cpu, A
// and B, and n for an A that may be below 0.
type lineForm struct {
	word  string
	kind  int
	names string
}

func lineForms() []lineForm {
	return []lineForm{
		{"due", 1, "NCAB"}, {"fixed", 2, "NCAB"}, {"fair", 3, "NCn"}, {"sleep", 4, "N"}, {"wake", 5, "N"}, {"exit", 6, "N"},
		{"lock", 7, "NA"}, {"unlock", 8, "NA"}, {"nice", 9, "Nn"}, {"move", 10, "NC"}, {"ticks", 11, "A"},
	}
}

// placeOf is where a call has what stands there by that name.
func placeOf(c *impl.Call, name rune) *int {
	return map[rune]*int{'N': &c.No, 'C': &c.Cpu, 'A': &c.A, 'n': &c.A, 'B': &c.B}[name]
}

// callOf is the call with these numbers in the order of its line.
func callOf(f lineForm, list ...int) impl.Call {
	c := impl.Call{Kind: f.kind}
	for at, name := range f.names {
		*placeOf(&c, name) = list[at]
	}
	return c
}

// lineOf is a line with these texts as its numbers.
func lineOf(f lineForm, list ...string) string {
	return strings.Join(append([]string{f.word}, list...), " ")
}

func leastOf(name byte) int { return map[byte]int{'n': -9}[name] }

// ones is a right number for each place of a form.
func ones(f lineForm) []int { return slices.Repeat([]int{1}, len(f.names)) }

func texts(list []int) []string {
	var all []string
	for _, number := range list {
		all = append(all, strconv.Itoa(number))
	}
	return all
}

// The functions named ByWord are the chapter's words once more.
func lineByWord(c impl.Call) (string, bool) {
	if !callOkByWord(c) {
		return "", false
	}
	f := lineForms()[c.Kind-1]
	line := f.word
	for at, name := range f.names {
		number := *placeOf(&c, name)
		if number < leastOf(f.names[at]) || len(strings.TrimPrefix(fmt.Sprint(number), "-")) > 7 {
			return "", false
		}
		line = fmt.Sprintf("%s %d", line, number)
	}
	return line, true
}

// linePatterns are of each form what all of its lines look like, and no other text.
var linePatterns = sync.OnceValue(func() []*regexp.Regexp {
	var list []*regexp.Regexp
	for _, f := range lineForms() {
		pattern := f.word
		for _, name := range f.names {
			pattern += map[bool]string{false: " (0|[1-9][0-9]{0,6})", true: " (0|[1-9][0-9]{0,6}|-[1-9])"}[name == 'n']
		}
		list = append(list, regexp.MustCompile(`\A`+pattern+`\z`))
	}
	return list
})

func parseByWord(line string) (impl.Call, bool) {
	for at, pattern := range linePatterns() {
		found := pattern.FindStringSubmatch(line)
		if found == nil {
			continue
		}
		var list []int
		for _, text := range found[1:] {
			number, err := strconv.Atoi(text)
			if err != nil {
				panic(err)
			}
			list = append(list, number)
		}
		return callOf(lineForms()[at], list...), true
	}
	return impl.Call{}, false
}

func turnTextByWord(list []impl.Turn) string {
	var all []string
	for _, turn := range list {
		if !between(turn.Cpu, 0, 1000) || !between(turn.Context, 0, 1000) || !between(turn.Executor, 0, 1000) {
			return ""
		}
		one := fmt.Sprintf("%d:%d", turn.Cpu, turn.Context)
		if turn.Context != turn.Executor {
			one = fmt.Sprintf("%s/%d", one, turn.Executor)
		}
		all = append(all, one)
	}
	return strings.Join(all, " ")
}

func sysLineByWord(s impl.Sys, line string) (impl.Sys, string) {
	if !sysOkByWord(s) {
		return s, "bad"
	}
	if line == "" || line[0] == 35 {
		return s, ""
	}
	if line == "turns" {
		last := s.Trace[max(0, len(s.Trace)-s.Cpus):]
		if text := turnTextByWord(last); text != "" {
			return s, text
		}
		return s, "none"
	}
	if line == "judge" {
		return s, map[bool]string{true: "yes", false: "no"}[judgedByWord(s).all]
	}
	c, ok := parseByWord(line)
	if !ok {
		return s, "what"
	}
	next, code := callByWord(s, c)
	return next, []string{"ok", "bad", "none", "known", "full", "state", "cycle"}[code]
}

func linesByWord(text string) []string {
	lines := strings.Split(text, "\x0a")
	if lines[len(lines)-1] == "" {
		lines = lines[:len(lines)-1]
	}
	return lines
}

func sessionByWord(cpus int, text string) (string, int) {
	if len(text) > 20000 || !between(cpus, 1, 4) {
		return "", -1
	}
	lines := linesByWord(text)
	if len(lines) > 150 {
		return "", -2
	}
	s, all := bareSys(cpus), ""
	for _, line := range lines {
		next, told := sysLineByWord(s, line)
		s = next
		if told != "" {
			all += told + "\x0a"
		}
	}
	return all, len(lines)
}

func wantLine(t *testing.T, c impl.Call, want string) {
	t.Helper()
	if got, ok := impl.CallLine(c); got != want || !ok {
		t.Errorf("CallLine(%+v) = %q, %t; want %q", c, got, ok, want)
	}
	if got, ok := impl.CallParse(want); got != c || !ok {
		t.Errorf("CallParse(%q) = %+v, %t; want %+v", want, got, ok, c)
	}
}

func wantNoLine(t *testing.T, c impl.Call) {
	t.Helper()
	if got, ok := impl.CallLine(c); got != "" || ok {
		t.Errorf("CallLine(%+v) = %q, %t", c, got, ok)
	}
}

func wantNoCall(t *testing.T, line string) {
	t.Helper()
	if got, ok := impl.CallParse(line); got != (impl.Call{}) || ok {
		t.Errorf("CallParse(%q) = %+v, %t", line, got, ok)
	}
}

func wantParsedByWord(t *testing.T, line string) bool {
	t.Helper()
	want, wantOk := parseByWord(line)
	if got, ok := impl.CallParse(line); got != want || ok != wantOk {
		t.Errorf("CallParse(%q) = %+v, %t; want %+v, %t", line, got, ok, want, wantOk)
	}
	if again, ok := impl.CallLine(want); ok != wantOk || ok && again != line {
		t.Errorf("%q is read, and written %q", line, again)
	}
	return wantOk
}

func wantText(t *testing.T, want string, list ...impl.Turn) {
	t.Helper()
	given, asItWas := spacious(list, turnOf(0, 77, 78), turnOf(-1, -1, -1))
	if got := impl.TurnText(given); got != want {
		t.Errorf("TurnText(%+v) = %q; want %q", list, got, want)
	}
	if !asItWas() {
		t.Errorf("TurnText(%+v) wrote into it", list)
	}
}

func wantTold(t *testing.T, s impl.Sys, line string, want impl.Sys, told string) {
	t.Helper()
	given, asItWas := roomySys(s)
	got, did := impl.SysLine(given, line)
	if did != told || !sameSys(got, want) {
		t.Errorf("SysLine(%+v, %q)\n= %+v, %q;\nwant %+v, %q", s, line, got, did, want, told)
	}
	wantSysOfItsOwn(t, "SysLine", got, asItWas)
}

// wantAnswer is of a line that changes nothing.
func wantAnswer(t *testing.T, s impl.Sys, line string, told string) {
	t.Helper()
	wantTold(t, s, line, s, told)
}

func wantSession(t *testing.T, cpus int, text string, want string, count int) {
	t.Helper()
	if got, n := impl.Session(cpus, text); got != want || n != count {
		t.Errorf("Session(%d, %.300q) = %q, %d; want %q, %d", cpus, text, got, n, want, count)
	}
}

func TestDeskConstants(t *testing.T) {
	if impl.MaxText != 20000 || impl.MaxCalls != 150 {
		t.Error(impl.MaxText, impl.MaxCalls)
	}
}

func TestLinesOfEachKind(t *testing.T) {
	wantLine(t, dueCall(5, 1, 2, 10), "due 5 1 2 10")
	wantLine(t, fixedCall(6, 0, 20, 3), "fixed 6 0 20 3")
	wantLine(t, fairCall(7, 3, 4), "fair 7 3 4")
	wantLine(t, fairCall(7, 3, -4), "fair 7 3 -4")
	wantLine(t, sleepCall(1), "sleep 1")
	wantLine(t, wakeCall(10), "wake 10")
	wantLine(t, exitCall(1000), "exit 1000")
	wantLine(t, lockCall(8, 4), "lock 8 4")
	wantLine(t, unlockCall(9, 2), "unlock 9 2")
	wantLine(t, niceCall(11, 1), "nice 11 1")
	wantLine(t, niceCall(11, -1), "nice 11 -1")
	wantLine(t, moveCall(12, 2), "move 12 2")
	wantLine(t, ticksCall(50), "ticks 50")
}

func TestLinesOfNoughts(t *testing.T) {
	for kind, line := range []string{1: "due 0 0 0 0", 2: "fixed 0 0 0 0", 3: "fair 0 0 0", 4: "sleep 0", 5: "wake 0", 6: "exit 0", 7: "lock 0 0", 8: "unlock 0 0",
		9: "nice 0 0", 10: "move 0 0", 11: "ticks 0"} {
		if kind > 0 {
			wantLine(t, impl.Call{Kind: kind}, line)
		}
	}
}

// Numbers change no places: each stands where its name does.
func TestLinesHaveTheirNumbersInOrder(t *testing.T) {
	for _, f := range lineForms() {
		for at := range f.names {
			list := make([]int, len(f.names))
			list[at] = 7
			wantLine(t, callOf(f, list...), lineOf(f, texts(list)...))
			list = upTo(len(f.names))
			list[at] = 1234567
			wantLine(t, callOf(f, list...), lineOf(f, texts(list)...))
		}
	}
}

// A number at each end, and one beyond, in each place of each kind.
func TestNumbersOfLinesAtTheEnds(t *testing.T) {
	for _, f := range lineForms() {
		for at := range f.names {
			for _, number := range []int{0, 1, 9, 10, 11, 99, 100, 101, 999, 1000, 1001, 9999, 10000, 99999, 100000, 100001, 999999, 1000000, 1000001, 9999998, 9999999} {
				list := ones(f)
				list[at] = number
				wantLine(t, callOf(f, list...), lineOf(f, texts(list)...))
			}
			for _, number := range []int{10000000, 10000001, 12345678, 99999999, 100000000, 1<<31 - 1, 1 << 31, 1 << 32, 1<<32 + 1, math.MaxInt - 1, math.MaxInt} {
				list := ones(f)
				list[at] = number
				wantNoLine(t, callOf(f, list...))
				wantNoCall(t, lineOf(f, texts(list)...))
			}
			for _, number := range []int{-1, -2, -4, -5, -8, -9, -10, -11, -19, -90, -99, -100, -1234567, -9999999, -10000000, -1 << 32, math.MinInt + 1, math.MinInt} {
				list := ones(f)
				list[at] = number
				if f.names[at] == 'n' && number >= -9 {
					wantLine(t, callOf(f, list...), lineOf(f, texts(list)...))
				} else {
					wantNoLine(t, callOf(f, list...))
					wantNoCall(t, lineOf(f, texts(list)...))
				}
			}
		}
	}
}

func TestFairAndNiceBelowNought(t *testing.T) {
	for a := 0; a >= -9; a-- {
		wantLine(t, fairCall(3, 1, a), "fair 3 1 "+strconv.Itoa(a))
		wantLine(t, niceCall(3, a), "nice 3 "+strconv.Itoa(a))
	}
	for a := -10; a >= -120; a-- {
		wantNoLine(t, fairCall(3, 1, a))
		wantNoLine(t, niceCall(3, a))
		wantNoCall(t, "fair 3 1 "+strconv.Itoa(a))
		wantNoCall(t, "nice 3 "+strconv.Itoa(a))
	}
	// right beside one that is not
	for _, c := range []impl.Call{fairCall(-3, 1, -9), fairCall(3, -1, -9), fairCall(3, 1, -10), fairCall(10000000, 1, -9), niceCall(-3, -9), niceCall(10000000, -9)} {
		wantNoLine(t, c)
	}
}

func TestCallsWithoutALine(t *testing.T) {
	for _, c := range callsThatAreNotOk() {
		wantNoLine(t, c)
	}
	wantNoLine(t, impl.Call{})
	for _, f := range lineForms() {
		// what a kind does not name is 0
		for _, name := range "NCAB" {
			if strings.ContainsRune(strings.ReplaceAll(f.names, "n", "A"), name) {
				continue
			}
			for _, number := range []int{1, -1, 9, 10, -9, -10, 12345678, math.MinInt, math.MaxInt} {
				c := callOf(f, ones(f)...)
				*placeOf(&c, name) = number
				wantNoLine(t, c)
			}
		}
		for _, kind := range []int{f.kind + 11, -f.kind, f.kind + 1<<32, f.kind + 256, f.kind - 12} {
			c := callOf(f, ones(f)...)
			c.Kind = kind
			if !callOkByWord(c) {
				wantNoLine(t, c)
			}
		}
	}
	if _, ok := lineByWord(fairCall(-1, -1, -1)); ok {
		t.Error("the model")
	}
}

// Each Kind with each number at all of these.
func TestManyCallsAndTheirLines(t *testing.T) {
	odd := []int{0, 1, -1, -9, -10, 50, 9999999, 10000000, math.MinInt, math.MaxInt}
	written := map[string]impl.Call{}
	for kind := -1; kind <= 13; kind++ {
		for _, no := range odd {
			for _, cpu := range odd {
				for _, a := range odd {
					for _, b := range odd {
						c := impl.Call{Kind: kind, No: no, Cpu: cpu, A: a, B: b}
						want, ok := lineByWord(c)
						if !ok {
							wantNoLine(t, c)
							continue
						}
						wantLine(t, c, want)
						if other, known := written[want]; known {
							t.Fatalf("%q is of %+v and of %+v", want, c, other)
						}
						written[want] = c
					}
				}
			}
		}
	}
	// of four numbers each that may stand anywhere, and six that may be a nice
	if want := 2*256 + 16*6 + 3*4 + 2*16 + 4*6 + 16 + 4; len(written) != want {
		t.Errorf("%d lines, not %d", len(written), want)
	}
}

func TestLinesThatAreNone(t *testing.T) {
	for _, line := range []string{
		"", " ", "  ", "0", "1", "-", "-1", "+1", "#", "# x", "turns", "judge", "what", "ok", "none", "help", "due", "a", "\n", "\t", "\x00", "\xff", "\xc3", "é",
		"tick 1", "ticks", "tickss 1", "ticks1", "ticks-1", "1 ticks", "1", "locks 1 2", "unlock1 2", "un lock 1 2", "run 1", "dues 1 0 1 2", "dur 1 0 1 2",
		"sleep 1 wake 1", "sleep wake", "sleep a", "sleep 1a", "sleep a1", "sleep 0x1", "sleep 1e3", "sleep 1.0", "sleep 1_0", "sleep 1,0", "sleep '1'", "sleep 0b1",
		"sleep 0o7", "sleep 1\n", "\nsleep 1", "sleep\n1", "sleep 1\r", "sleep 1\x00", "\x00sleep 1", "sleep\x001", "sleep 1#", "#sleep 1", "sleep 1 #", "sleep 1 # x",
		"\xef\xbb\xbfsleep 1", "sleep 1\xef\xbb\xbf", "1 2 3 4 5", "  1", "0 0 0 0 0",
	} {
		wantNoCall(t, line)
	}
}

func TestWordsOfLines(t *testing.T) {
	for _, f := range lineForms() {
		list := texts(ones(f))
		right := lineOf(f, list...)
		wantLine(t, callOf(f, ones(f)...), right)
		for _, word := range []string{strings.ToUpper(f.word), strings.ToUpper(f.word[:1]) + f.word[1:], f.word[:len(f.word)-1] + strings.ToUpper(f.word[len(f.word)-1:]),
			f.word + "s", f.word[1:], f.word[:len(f.word)-1], f.word + f.word, f.word + ":", "/" + f.word, "", f.word + "\x00", "\x00" + f.word, f.word + "\xff", f.word + "\u0301",
			strconv.Itoa(f.kind), "-", "#" + f.word, strings.Replace(f.word, "e", "е", 1) + "x", strings.Replace(f.word, "i", "ı", 1) + "_"} {
			wantNoCall(t, lineOf(lineForm{word: word}, list...))
		}
		// a word alone, and with a blank
		wantNoCall(t, f.word)
		wantNoCall(t, f.word+" ")
		wantNoCall(t, " "+f.word)
		for _, other := range lineForms() {
			wantParsedByWord(t, lineOf(lineForm{word: other.word}, list...))
			wantNoCall(t, right+" "+other.word)
			wantNoCall(t, other.word+" "+right)
		}
	}
}

func TestLinesOfTooFewAndTooManyNumbers(t *testing.T) {
	for _, f := range lineForms() {
		for count := range 9 {
			line := lineOf(f, slices.Repeat([]string{"2"}, count)...)
			if got := wantParsedByWord(t, line); got != (count == len(f.names)) {
				t.Errorf("%q is %t", line, got)
			}
		}
		for _, count := range []int{50, 1000, 20000} {
			wantNoCall(t, lineOf(f, slices.Repeat([]string{"2"}, count)...))
		}
		wantNoCall(t, lineOf(f, append(texts(ones(f)), "")...))
	}
}

// In each place of each kind a text that is no number on a line.
func TestNumbersThatAreWrittenOtherwise(t *testing.T) {
	for _, f := range lineForms() {
		for at := range f.names {
			for _, text := range []string{
				"", "-", "+", "--1", "-+1", "+-1", "+0", "+1", "+9", "-0", "-00", "-01", "-09", "00", "01", "09", "000", "001", "010", "0000001", "0000000", "00000001",
				"1-", "1-2", "0-", "0-1", "9-9", "1+", "1.", ".1", "1a", "a", "A", "x1", "0x", "0x1", "1e1", "1_1", "'", "1'", "/", ":", "1:", "/1", "\t", "1\t", "\t1", "\n", "1\n",
				"\r", "1\r", "\x00", "1\x00", "\x001", "\xff", "1\xff", "\xff1", "\xc2", "1\xc2", "\xc2\xa0", "1\xc2\xa0", "\xc0\xb1", "\xe0\x80\xb1", "\xf0\x80\x80\xb1", "\xb1",
				"\xef\xbc\x91", "\xd9\xa1", "\xe2\x88\x921", "\xe2\x80\x931", "\xc2\xb9", "\xe2\x82\x81", "\xed\xa0\x80", "\xf4\x90\x80\x80", "\xef\xbf\xbd", "½", "१", "一",
				"10000000", "12345678", "99999999", "-10", "-12", "-99", "-1234567", "-12345678", "9223372036854775807", "9223372036854775808", "-9223372036854775808",
				"18446744073709551616", "18446744073709551617", "18446744073709551618", "-18446744073709551615", "4294967297", "340282366920938463463374607431768211457",
				"1000000000000000000000000000000000000000000000000000000000000000000000000001", strings.Repeat("0", 64) + "1", strings.Repeat("1", 20000), "true", "nil", "one",
			} {
				list := texts(ones(f))
				list[at] = text
				wantNoCall(t, lineOf(f, list...))
				if parsed, ok := parseByWord(lineOf(f, list...)); ok {
					t.Fatalf("the model reads %+v", parsed)
				}
			}
		}
	}
}

// A blank more, a blank less, and another byte in place of each blank.
func TestBlanksOfLines(t *testing.T) {
	for _, f := range lineForms() {
		right := lineOf(f, texts(ones(f))...)
		wantNoCall(t, " "+right)
		wantNoCall(t, right+" ")
		wantNoCall(t, " "+right+" ")
		wantNoCall(t, strings.ReplaceAll(right, " ", "  "))
		wantNoCall(t, strings.ReplaceAll(right, " ", ""))
		for at := range right {
			if right[at] != ' ' {
				continue
			}
			wantNoCall(t, right[:at]+" "+right[at:])
			wantNoCall(t, right[:at]+"   "+right[at:])
			wantNoCall(t, right[:at]+right[at+1:])
			for _, other := range []string{"\t", "\n", "\v", "\f", "\r", "\x00", "\x1f", "!", "_", ",", ";", "=", "\x7f", "\x80", "\xa0", "\xc2\xa0", "\xc0\xa0", "\xe0\x80\xa0",
				"\u0085", "\u1680", "\u2000", "\u2003", "\u2028", "\u202f", "\u205f", "\u3000", "\u200b", "\ufeff", " \t", "\t ", "\xff "} {
				wantNoCall(t, right[:at]+other+right[at+1:])
			}
		}
	}
}

// longLine is a right line of each form with numbers of all lengths.
func longLine(f lineForm) string {
	return lineOf(f, []string{"1234567", "0", "30", "9080"}[:len(f.names)]...)
}

// Every text that is a right line but for one byte.
func TestLinesBesideRightOnes(t *testing.T) {
	right := 0
	count := func(line string) {
		t.Helper()
		if wantParsedByWord(t, line) {
			right++
		}
	}
	for _, f := range lineForms() {
		lines := []string{longLine(f), lineOf(f, texts(ones(f))...)}
		if strings.HasSuffix(f.names, "n") {
			lines = append(lines, lineOf(f, []string{"5", "-7", "-7"}[3-len(f.names):]...), lineOf(f, []string{"5", "6", "-7"}[3-len(f.names):]...))
		}
		for _, line := range lines {
			for at := range len(line) + 1 {
				for b := range 256 {
					count(line[:at] + string([]byte{byte(b)}) + line[at:])
					if at < len(line) {
						count(line[:at] + string([]byte{byte(b)}) + line[at+1:])
					}
				}
				if at < len(line) {
					count(line[:at] + line[at+1:])
					count(line[:at])
					count(line[at:])
				}
			}
		}
	}
	if right < 1000 {
		t.Errorf("too few to tell: %d right", right)
	}
}

// Every text of few of these bytes behind a word.
func TestShortLinesBehindWords(t *testing.T) {
	right := 0
	bytes := " -019\xff"
	var texts []string
	for from, length := 0, 0; length <= 5; length++ {
		if length == 0 {
			texts = append(texts, "")
			continue
		}
		to := len(texts)
		for _, text := range texts[from:to] {
			for at := range len(bytes) {
				texts = append(texts, text+bytes[at:at+1])
			}
		}
		from = to
	}
	for _, word := range []string{"sleep", "lock", "nice", "move", "fair", "ticks"} {
		for _, text := range texts {
			if wantParsedByWord(t, word+text) {
				right++
			}
		}
	}
	if right < 300 {
		t.Errorf("too few to tell: %d right", right)
	}
}

// anyLine is a line, or nearly one.
func (n *numbers) anyLine(s impl.Sys) string {
	line, ok := impl.CallLine(n.anyCall(s))
	switch n.below(30) {
	case 0:
		return "turns"
	case 1:
		return "judge"
	case 2:
		return ""
	case 3:
		return "#" + line
	case 4:
		return []string{"what", "turns ", " turns", "judge 1", " ", " #", "\x00", "\xff", "Turns", "JUDGE", "turn", "none", "\r", "sleep", "due 1 2"}[n.below(15)]
	}
	if !ok || n.below(25) > 0 {
		return line
	}
	at := n.below(len(line) + 1)
	switch n.below(3) {
	case 0:
		return line[:at] + string([]byte{byte(n.oneOf(' ', '0', '1', '-', '9', n.below(10), 11+n.below(245)))}) + line[at:]
	case 1:
		return line[:at] + line[min(at+1, len(line)):]
	}
	return line[:at]
}

// Promise 14: calls are read from their lines as they were.
func TestCallsAreReadFromTheirLinesAsTheyWere(t *testing.T) {
	var n numbers
	read, none := 0, 0
	for range 60000 {
		f := lineForms()[n.below(11)]
		var list []int
		for at := range f.names {
			number := n.oneOf(n.below(10), n.below(100), n.below(1000), n.below(1000000), n.below(10000000), 9999999, leastOf(f.names[at])+n.below(10))
			if n.below(12) == 0 {
				number = n.oneOf(-1, -9, -10, 10000000, n.below(100000000), -n.below(100), math.MinInt, math.MaxInt)
			}
			list = append(list, number)
		}
		c := callOf(f, list...)
		if n.below(12) == 0 {
			*placeOf(&c, rune("NCAB"[n.below(4)])) = n.below(2)
		}
		want, ok := lineByWord(c)
		if !ok {
			wantNoLine(t, c)
			none++
			continue
		}
		wantLine(t, c, want)
		read++
	}
	if min(read, none) < 5000 {
		t.Errorf("too few to tell: %d read, %d without a line", read, none)
	}
}

// A line that is read is written as it was.
func TestLinesThatAreReadAreWrittenAsTheyWere(t *testing.T) {
	var n numbers
	read, none := 0, 0
	for range 60000 {
		line := n.anyLine(bareSys(4))
		c, ok := impl.CallParse(line)
		again, written := impl.CallLine(c)
		switch {
		case ok != written || ok && again != line || ok && !impl.CallOk(c):
			t.Fatalf("%q is read as %+v, %t, and written %q, %t", line, c, ok, again, written)
		case ok:
			read++
		case c != impl.Call{} || again != "":
			t.Fatalf("%q leaves %+v, and %q", line, c, again)
		default:
			none++
		}
		wantParsedByWord(t, line)
	}
	if min(read, none) < 5000 {
		t.Errorf("too few to tell: %d read, %d not", read, none)
	}
}

func TestTextsOfTurns(t *testing.T) {
	wantText(t, "0:0", turnOf(0, 0, 0))
	wantText(t, "0:5", turnOf(0, 5, 5))
	wantText(t, "3:5/6", turnOf(3, 5, 6))
	wantText(t, "3:6/5", turnOf(3, 6, 5))
	wantText(t, "1:0", turnOf(1, 0, 0))
	wantText(t, "0:1 1:0 0:2/3", turnOf(0, 1, 1), turnOf(1, 0, 0), turnOf(0, 2, 3))
	wantText(t, "0:0 0:0 0:0", make([]impl.Turn, 3)...)
	// Executor 0 beside a Context, and the other way round
	wantText(t, "0:0/5", turnOf(0, 0, 5))
	wantText(t, "0:5/0", turnOf(0, 5, 0))
	wantText(t, "2:0/7 2:7/0 2:7", turnOf(2, 0, 7), turnOf(2, 7, 0), turnOf(2, 7, 7))
	wantText(t, "0:10 1:20/30 2:0 0:10/40 1:0 2:0 0:40 1:30 2:50 0:0 1:20 2:0 0:10/40 1:20/30 2:50/60", mixedTrace()...)
	// as it is written, one number is not the beginning of another
	wantText(t, "10:100 100:10 1:1000/100", turnOf(10, 100, 100), turnOf(100, 10, 10), turnOf(1, 1000, 100))
}

func TestTextsOfNoTurns(t *testing.T) {
	wantText(t, "")
	for _, list := range [][]impl.Turn{nil, {}, mixedTrace()[:0], mixedTrace()[9:9], mixedTrace()[15:]} {
		if got := impl.TurnText(list); got != "" {
			t.Errorf("%q", got)
		}
	}
}

// A number at each end, and one beyond, in each of the three places.
func TestTextsOfTurnsAtTheEnds(t *testing.T) {
	for _, number := range []int{0, 1, 3, 4, 5, 9, 10, 99, 100, 999, 1000} {
		text := strconv.Itoa(number)
		wantText(t, text+":5", turnOf(number, 5, 5))
		wantText(t, text+":0", turnOf(number, 0, 0))
		wantText(t, "2:"+text, turnOf(2, number, number))
		if number != 5 {
			wantText(t, "2:"+text+"/5", turnOf(2, number, 5))
			wantText(t, "2:5/"+text, turnOf(2, 5, number))
		}
	}
	wantText(t, "1000:1000", turnOf(1000, 1000, 1000))
	wantText(t, "1000:1000/999", turnOf(1000, 1000, 999))
	for _, number := range []int{-1, -2, -1000, 1001, 1002, 10000, 1 << 32, 1<<32 + 5, -1 << 32, math.MinInt, math.MinInt + 5, math.MaxInt} {
		for _, turn := range []impl.Turn{turnOf(number, 5, 5), turnOf(number, 0, 0), turnOf(2, number, 5), turnOf(2, 5, number), turnOf(2, number, number),
			turnOf(number, number, number), turnOf(2, 0, number), turnOf(2, number, 0)} {
			wantText(t, "", turn)
			// one of many is enough, wherever it stands
			for at := range 16 {
				wantText(t, "", slices.Insert(mixedTrace(), at, turn)...)
			}
		}
	}
}

func TestTextsOfLongTraces(t *testing.T) {
	for _, length := range []int{1, 2, 150, 399, 400, 401, 1000, 20000} {
		wantText(t, strings.TrimPrefix(strings.Repeat(" 3:1000/999", length), " "), slices.Repeat([]impl.Turn{turnOf(3, 1000, 999)}, length)...)
		wantText(t, "", append(slices.Repeat([]impl.Turn{turnOf(3, 1000, 999)}, length), turnOf(0, 0, -1))...)
	}
}

// turnsOf reads a text of turns once more.
func turnsOf(t *testing.T, text string) []impl.Turn {
	t.Helper()
	var list []impl.Turn
	for _, one := range strings.Fields(text) {
		cpu, who, _ := strings.Cut(one, ":")
		context, executor, lent := strings.Cut(who, "/")
		if !lent {
			executor = context
		}
		var turn [3]int
		for at, part := range []string{cpu, context, executor} {
			number, err := strconv.Atoi(part)
			if err != nil || part != strconv.Itoa(number) {
				t.Fatalf("%q in %q", part, text)
			}
			turn[at] = number
		}
		list = append(list, turnOf(turn[0], turn[1], turn[2]))
	}
	return list
}

func TestTextsOfManyRuns(t *testing.T) {
	var n numbers
	lent, nobodys := 0, 0
	for run := range 120 {
		s, _ := impl.SysNew(1 + run%4)
		for range 120 {
			s, _ = impl.SysRun(s, []impl.Call{n.pressing(s)})
			if n.below(12) == 0 {
				wantText(t, turnTextByWord(s.Trace), s.Trace...)
			}
		}
		text := impl.TurnText(s.Trace)
		wantText(t, turnTextByWord(s.Trace), s.Trace...)
		if !slices.Equal(turnsOf(t, text), s.Trace) {
			t.Fatalf("%q of %+v", text, s.Trace)
		}
		lent += strings.Count(text, "/")
		nobodys += impl.UsedBy(s.Trace, 0)
	}
	if min(lent, nobodys) < 500 {
		t.Errorf("too few to tell: %d lent, %d nobody's", lent, nobodys)
	}
}

func TestManyTextsByWord(t *testing.T) {
	var n numbers
	told, none := 0, 0
	for range 20000 {
		list := make([]impl.Turn, n.below(12))
		for i := range list {
			few := n.oneOf(2, 5, 1001)
			list[i] = turnOf(n.below(few), n.below(few), n.below(few))
			if n.below(25) == 0 {
				list[i] = turnOf(n.oneOf(0, -1, 1000, 1001), n.oneOf(0, -1, 1000, 1001), n.oneOf(0, 1000, 1001, math.MinInt))
			}
		}
		want := turnTextByWord(list)
		wantText(t, want, list...)
		if want != "" {
			told++
		} else {
			none++
		}
	}
	if min(told, none) < 2000 {
		t.Errorf("too few to tell: %d told, %d not", told, none)
	}
}

// Each of the words that a call is answered with.
func TestWordsThatALineTells(t *testing.T) {
	s := busySys()
	wantTold(t, s, "sleep 30", turned(s, func(s *impl.Sys) { s.Tasks[2].State = 2 }), "ok")
	wantTold(t, s, "nice 80 -4", turned(s, func(s *impl.Sys) { s.Tasks[7].Nice = -4 }), "ok")
	wantTold(t, s, "lock 70 1", turned(s, func(s *impl.Sys) { s.Locks[1].Owner = 70 }), "ok")
	wantTold(t, s, "fair 1000 2 4", turned(s, func(s *impl.Sys) { s.Tasks = append(s.Tasks, onCpu(2, niceNo(1000, 4, 0))) }), "ok")
	behind, _ := tickByWord(s)
	wantTold(t, s, "ticks 1", behind, "ok")
	for line, told := range map[string]string{
		"due 5 3 1 40": "bad", "due 5 0 2 1": "bad", "fair 5 0 5": "bad", "fair 5 0 -5": "bad", "fair 5 0 -9": "bad", "fixed 5 0 21 1": "bad", "fixed 1001 0 1 1": "bad",
		"nice 80 5": "bad", "nice 80 -9": "bad", "ticks 0": "bad", "ticks 51": "bad", "ticks 9999999": "bad", "due 0 0 0 0": "bad",
		"sleep 5": "none", "wake 0": "none", "exit 9999999": "none", "lock 10 5": "none", "lock 5 0": "none", "unlock 30 9": "none", "nice 5 0": "none", "move 5 0": "none",
		"due 10 0 1 40": "known", "fixed 10 2 1 1": "known", "fair 90 1 0": "known",
		"due 5 0 1 2": "full", "due 5 2 1 40": "full",
		"sleep 50": "state", "sleep 10": "state", "wake 10": "state", "exit 10": "state", "lock 70 0": "state", "lock 30 0": "state", "unlock 70 0": "state", "nice 10 0": "state",
		"move 10 1": "state", "move 80 1": "state",
		"lock 30 2": "cycle",
	} {
		wantAnswer(t, s, line, told)
		if _, want := sysLineByWord(s, line); want != told {
			t.Errorf("by word %q tells %q", line, want)
		}
	}
	wantAnswer(t, fullSys(), "ticks 1", "full")
	wantAnswer(t, fullSys(), "fair 1000 0 0", "full")
}

func TestLinesThatTellNothing(t *testing.T) {
	for _, s := range rightSystems() {
		for _, line := range []string{"", "#", "##", "# ", "#x", "# x", "#\x00", "#\xff", "#turns", "#judge", "#sleep 1", "#\n", "#\nsleep 30", "# \t", "#" + strings.Repeat("x", 30000)} {
			wantAnswer(t, s, line, "")
		}
	}
}

func TestLinesThatAreNoneTellWhat(t *testing.T) {
	for _, s := range rightSystems() {
		for _, line := range []string{
			" ", " #", "\t#", "\x00#", "\xef\xbb\xbf#", "\uff03", "!", "turns ", " turns", "turns\r", "turns\n", "turns 1", "turns#", "Turns", "TURNS", "turn", "turnss", "turns  ",
			"judge ", " judge", "judge\r", "judge\n", "judge 1", "Judge", "JUDGE", "judg", "judges", "judge judge", "turns judge", "what", "none", "yes", "ok", "help", "\n", "\r", "\x00",
			"sleep", "sleep 30 ", " sleep 30", "sleep  30", "sleep 030", "sleep +30", "sleep -30", "sleep 30\n", "sleep\t30", "Sleep 30", "nice 80 -10", "nice 80 -0", "ticks 1 1",
			"ticks -1", "ticks 00000001", "ticks 12345678", "\xff", "sleep 30\xff", strings.Repeat("x", 30000), strings.Repeat(" ", 30000), "sleep " + strings.Repeat("1", 30000),
		} {
			wantAnswer(t, s, line, "what")
		}
	}
}

func TestTurnsThatALineTells(t *testing.T) {
	for cpus := 1; cpus <= 4; cpus++ {
		s := bareSys(cpus)
		wantAnswer(t, s, "turns", "none")
		s.Trace = []impl.Turn{}
		wantAnswer(t, s, "turns", "none")
		for range 3 {
			s = ticked(t, s)
			wantAnswer(t, s, "turns", []string{"0:0", "0:0 1:0", "0:0 1:0 2:0", "0:0 1:0 2:0 3:0"}[cpus-1])
		}
		s = called(t, s, fairCall(1000, cpus-1, 0), dueCall(7, cpus-1, 1, 1), lockCall(1000, 4), lockCall(7, 4), ticksCall(1))
		wantAnswer(t, s, "turns", strings.Join(append([]string{"0:0", "1:0", "2:0"}[:cpus-1:cpus-1], fmt.Sprintf("%d:7/1000", cpus-1)), " "))
	}
	wantAnswer(t, busySys(), "turns", "0:10/30 1:60 2:0")
	// the last of as many as a trace may have, and fewer than there are processors
	wantAnswer(t, fullSys(), "turns", "0:0 0:0 0:0 0:0")
	wantAnswer(t, turned(busySys(), func(s *impl.Sys) { s.Trace = s.Trace[:2] }), "turns", "0:10/30 1:60")
	wantAnswer(t, turned(busySys(), func(s *impl.Sys) { s.Trace = s.Trace[:1] }), "turns", "0:10/30")
	wantAnswer(t, turned(busySys(), func(s *impl.Sys) { s.Trace = nil }), "turns", "none")
}

// A right system may have any numbers in its trace: where the last turns have no
// text there is none to tell, and where they have one those ahead do not count.
func TestTurnsThatHaveNoText(t *testing.T) {
	for _, number := range []int{-1, 1001, math.MinInt, math.MaxInt} {
		for _, turn := range []impl.Turn{turnOf(number, 5, 5), turnOf(0, number, 5), turnOf(0, 5, number)} {
			for at := range 3 {
				wantAnswer(t, turned(busySys(), func(s *impl.Sys) { s.Trace[at] = turn }), "turns", "none")
				wantAnswer(t, turned(busySys(), func(s *impl.Sys) { s.Trace = slices.Insert(slices.Repeat(s.Trace, 2), 3+at, turn)[:6] }), "turns", "none")
			}
			wantAnswer(t, turned(busySys(), func(s *impl.Sys) { s.Trace = append([]impl.Turn{turn}, s.Trace...) }), "turns", "0:10/30 1:60 2:0")
		}
	}
}

func TestJudgesThatALineTells(t *testing.T) {
	for cpus := 1; cpus <= 4; cpus++ {
		wantAnswer(t, bareSys(cpus), "judge", "yes")
		wantAnswer(t, turned(bareSys(cpus), func(s *impl.Sys) { s.Missed = 1 }), "judge", "no")
		wantAnswer(t, turned(bareSys(cpus), func(s *impl.Sys) { s.Trace = []impl.Turn{turnOf(1, 0, 0)} }), "judge", "no")
		wantAnswer(t, turned(bareSys(cpus), func(s *impl.Sys) { s.Trace = traceOf(cpus, 2) }), "judge", "yes")
		far := sysOn(cpus, 8, onCpu(cpus-1, fairNo(5, 49)))
		wantAnswer(t, far, "judge", "no")
		far.Tasks[0].V = 48
		wantAnswer(t, far, "judge", "yes")
	}
	wantAnswer(t, steady(), "judge", "yes")
	wantAnswer(t, busySys(), "judge", "no")
	wantAnswer(t, fullSys(), "judge", "no")
}

// someLines are of every kind: what is done, what is refused, what asks, what tells
// nothing, and what is none.
func someLines() []string {
	list := []string{"", "#", "# x", " #", "turns", "turns ", "judge", "what", "\xff", "sleep", "nice 80 -10", "sleep 05", "ticks 1", "ticks 51", "sleep 30", "sleep 5", "wake 50",
		"fair 10 0 0", "fair 5 0 -4", "lock 30 2", "unlock 30 0", "exit 10", "move 80 0", "fixed 5 1 2 3"}
	for _, f := range lineForms() {
		list = append(list, longLine(f), lineOf(f, texts(ones(f))...))
	}
	return list
}

// The system is left as it was, and told bad, whatever the line.
func TestLinesOfWrongSystems(t *testing.T) {
	lines := someLines()
	for at, s := range wrongSystems() {
		if sysOkByWord(s) {
			t.Fatalf("it is right: %+v", s)
		}
		for i, line := range lines {
			// of each system some, of all systems all
			if i < 7 || (at+i)%6 == 0 {
				wantAnswer(t, s, line, "bad")
			}
		}
	}
}

func TestLinesOfSystemsWithoutAnything(t *testing.T) {
	empty := impl.Sys{Tasks: []impl.Task{}, Locks: []impl.Lock{}, Ghosts: []impl.Ghost{}, Floors: []int{}, Trace: []impl.Turn{}}
	for _, s := range []impl.Sys{{}, empty, {Cpus: 1}, {Cpus: 1, Locks: freeLocks(5)}, {Cpus: 1, Floors: []int{0}}} {
		for _, line := range someLines() {
			wantAnswer(t, s, line, "bad")
		}
	}
	bare := impl.Sys{Cpus: 1, Tasks: []impl.Task{}, Locks: freeLocks(5), Ghosts: []impl.Ghost{}, Floors: []int{0}, Trace: []impl.Turn{}}
	wantTold(t, bare, "fair 1 0 0", turned(bare, func(s *impl.Sys) { s.Tasks = []impl.Task{fairNo(1, 0)} }), "ok")
	wantAnswer(t, bare, "sleep 1", "none")
	wantAnswer(t, bare, "turns", "none")
	wantAnswer(t, bare, "judge", "yes")
}

func TestLinesOfSystemsAtTheEndsOfInt(t *testing.T) {
	for _, end := range []int{math.MinInt, math.MinInt + 1, math.MaxInt - 1, math.MaxInt} {
		s := impl.Sys{
			Now: end, Cpus: end, Seq: end, Missed: end,
			Tasks:  []impl.Task{{No: end, Class: 1, Cpu: end, State: end, Q: end, P: end, Left: end, Due: -end}, {No: end, Class: 3, Cpu: end, V: end}},
			Locks:  []impl.Lock{lockOf(end, end), lockOf(end), lockOf(0), lockOf(1), lockOf(-end)},
			Ghosts: []impl.Ghost{{Cpu: end, S: impl.Share{Q: end, P: end}, Until: end}},
			Floors: []int{end, end},
			Trace:  []impl.Turn{turnOf(end, end, end)},
		}
		for _, line := range someLines() {
			wantAnswer(t, s, line, "bad")
		}
	}
}

// Each line of these changes nothing, whatever the system.
func TestLinesThatAskChangeNothing(t *testing.T) {
	var n numbers
	for range 4000 {
		s := n.judgeable()
		for _, line := range []string{"", "turns", "judge", "#", "# sleep 1", "what", "turns ", " judge"} {
			_, told := sysLineByWord(s, line)
			wantAnswer(t, s, line, told)
		}
	}
	// nor do they between others: what is told is as without them
	for run := range 60 {
		s, _ := impl.SysNew(1 + run%4)
		asked := copySys(s)
		for range 100 {
			line := n.anyLine(s)
			for range n.below(3) {
				asked, _ = impl.SysLine(asked, []string{"", "turns", "judge", "#", "#x"}[n.below(5)])
			}
			next, one := impl.SysLine(s, line)
			same, two := impl.SysLine(asked, line)
			if s, asked = next, same; one != two || !sameSys(s, asked) {
				t.Fatalf("%q tells %q and %q: %+v and %+v", line, one, two, s, asked)
			}
		}
	}
}

func TestManyLinesByWord(t *testing.T) {
	var n numbers
	seen := map[string]int{}
	for range 25000 {
		s := n.judgeable()
		line := n.anyLine(n.okOr(s))
		want, told := sysLineByWord(s, line)
		wantTold(t, s, line, want, told)
		if strings.Contains(told, ":") {
			told = "turns"
		}
		seen[told]++
	}
	for _, told := range []string{"", "ok", "bad", "none", "known", "full", "state", "cycle", "what", "yes", "no", "turns"} {
		if seen[told] < 20 {
			t.Errorf("too few to tell: %d of %q", seen[told], told)
		}
	}
}

// A line does what its call does.
func TestLinesDoWhatTheirCallsDo(t *testing.T) {
	var n numbers
	for range 8000 {
		s := n.okOr(n.lively())
		c := n.anyCall(s)
		line, ok := impl.CallLine(c)
		if !ok {
			continue
		}
		want, code := impl.SysCall(s, c)
		wantTold(t, s, line, want, []string{"ok", "bad", "none", "known", "full", "state", "cycle"}[code])
	}
}

// Two answers, to one question or to two, have nothing in common.
func TestLinesAreApart(t *testing.T) {
	for _, line := range someLines() {
		s := busySys()
		one, _ := impl.SysLine(s, line)
		two, _ := impl.SysLine(s, line)
		want := copySys(two)
		three, _ := impl.SysLine(two, line)
		wantThree := copySys(three)
		wantSysOfItsOwn(t, "SysLine", one, func() bool { return sameSys(s, busySys()) && sameSys(two, want) && sameSys(three, wantThree) })
		wantSysOfItsOwn(t, "SysLine", three, func() bool { return sameSys(s, busySys()) && sameSys(two, want) })
	}
}

// Lists of one system that lie in one piece of memory come back apart.
func TestLinesOfListsThatShareMemory(t *testing.T) {
	room := []int{10, 20, 30, 40, 50, 60}
	s := impl.Sys{Cpus: 1, Tasks: hikers(), Locks: freeLocks(5), Floors: room[:1]}
	s.Locks[0] = impl.Lock{Owner: 10, Waits: room[1:3]}
	s.Locks[1] = impl.Lock{Owner: 20, Waits: room[3:6]}
	asItWas := func() bool {
		return slices.Equal(room, []int{10, 20, 30, 40, 50, 60}) && slices.Equal(s.Tasks, hikers())
	}
	for _, now := range []int{0, -1} {
		s.Now = now
		for _, line := range append(someLines(), "unlock 10 0", "lock 10 2", "lock 10 1", "sleep 10", "exit 10", "ticks 2") {
			want, told := sysLineByWord(s, line)
			got, did := impl.SysLine(s, line)
			if did != told || !sameSys(got, want) {
				t.Errorf("%q tells %q, and leaves %+v", line, did, got)
			}
			wantSysOfItsOwn(t, "SysLine", got, asItWas)
		}
	}
}

func TestASession(t *testing.T) {
	lines := []struct{ line, told string }{
		{"# two processors", ""}, {"turns", "none"}, {"judge", "yes"}, {"fair 3 0 0", "ok"}, {"fair 3 0 0", "known"}, {"", ""}, {"due 5 0 1 4", "ok"}, {"due 6 0 4 5", "full"},
		{"lock 3 0", "ok"}, {"lock 5 0", "ok"}, {"sleep 5", "state"}, {"ticks 2", "ok"}, {"turns", "0:3 1:0"}, {"exit 3", "state"}, {"ticks 0", "bad"}, {"ticks", "what"},
		{"unlock 3 0", "ok"}, {"move 3 1", "ok"}, {"move 3 2", "bad"}, {"unlock 5 0", "ok"}, {"exit 5", "ok"}, {"exit 5", "none"}, {"nice 3 -4", "ok"}, {"nice 3 -10", "what"},
		{"fixed 7 1 2 0", "ok"}, {"wake 7", "state"}, {"ticks 1", "ok"}, {"turns", "0:0 1:7"}, {"lock 7 1", "ok"}, {"lock 3 2", "ok"}, {"lock 3 1", "ok"}, {"lock 7 2", "cycle"},
		{"sleep 7", "ok"}, {"ticks 3", "ok"}, {"turns", "0:0 1:0"}, {"judge", "yes"}, {" judge", "what"},
	}
	text, told := "", ""
	for at, row := range lines {
		if at > 0 {
			text += "\n"
		}
		text += row.line
		if row.told != "" {
			told += row.told + "\n"
		}
		wantSession(t, 2, text, told, at+1-map[bool]int{true: 1}[row.line == ""])
		wantSession(t, 2, text+"\n", told, at+1)
	}
}

func TestSessionsOnEachNumberOfProcessors(t *testing.T) {
	for _, cpus := range []int{0, -1, -2, 5, 6, 256, 1 << 32, 1<<32 + 1, math.MinInt, math.MinInt + 1, math.MaxInt - 1, math.MaxInt} {
		for _, text := range []string{"", "\n", "judge", "judge\n", "what", "#", strings.Repeat("\n", 150), strings.Repeat("\n", 151), strings.Repeat("x", 20001)} {
			wantSession(t, cpus, text, "", -1)
		}
	}
	for cpus, turns := range []string{1: "0:0", 2: "0:0 1:0", 3: "0:0 1:0 2:0", 4: "0:0 1:0 2:0 3:0"} {
		if cpus == 0 {
			continue
		}
		wantSession(t, cpus, "", "", 0)
		wantSession(t, cpus, "ticks 1\nturns\n", "ok\n"+turns+"\n", 2)
		for cpu := range 6 {
			wantSession(t, cpus, fmt.Sprintf("fair 5 %d 0", cpu), map[bool]string{true: "ok\n", false: "bad\n"}[cpu < cpus], 1)
		}
	}
}

func TestLinesOfASession(t *testing.T) {
	for _, row := range []struct {
		text  string
		told  string
		count int
	}{
		{"", "", 0}, {"\n", "", 1}, {"\n\n", "", 2}, {"\n\n\n", "", 3}, {"#", "", 1}, {"#\n", "", 1}, {"#\n#", "", 2}, {"\n#", "", 2}, {"#\n\n", "", 2},
		{"judge", "yes\n", 1}, {"judge\n", "yes\n", 1}, {"judge\n\n", "yes\n", 2}, {"\njudge", "yes\n", 2}, {"\njudge\n", "yes\n", 2}, {"\n\njudge\n\n", "yes\n", 4},
		{"judge\njudge", "yes\nyes\n", 2}, {"judge\n\njudge", "yes\nyes\n", 3}, {"judge\n#\njudge\n", "yes\nyes\n", 3}, {"judge judge", "what\n", 1},
		{"judge\r\njudge", "what\nyes\n", 2}, {"judge\rjudge", "what\n", 1}, {"\r\n", "what\n", 1}, {"\r", "what\n", 1}, {"judge\u2028judge", "what\n", 1}, {"judge\u0085judge", "what\n", 1},
		{"judge\vjudge", "what\n", 1}, {"judge\x00", "what\n", 1}, {"\x00", "what\n", 1}, {" ", "what\n", 1}, {" \n", "what\n", 1}, {"\n ", "what\n", 2}, {" \n ", "what\nwhat\n", 2},
		// a byte 10 is one wherever it stands, also behind bytes that want more of them
		{"\xff\njudge", "what\nyes\n", 2}, {"\xc3\njudge", "what\nyes\n", 2}, {"\xe2\njudge", "what\nyes\n", 2}, {"\xe2\x82\njudge", "what\nyes\n", 2}, {"\xf0\x9f\x98\njudge", "what\nyes\n", 2},
		{"#\xf0\njudge", "yes\n", 2}, {"#\xc3\n", "", 1}, {"\xf0\n\xf0\n", "what\nwhat\n", 2}, {"judge\n\xff", "yes\nwhat\n", 2}, {"\xc0\x8a", "what\n", 1}, {"\xe0\x80\x8ajudge", "what\n", 1},
		{"\u010a", "what\n", 1}, {"judge\u010ajudge", "what\n", 1}, {"judge\\njudge", "what\n", 1}, {"#\\njudge", "", 1}, {"# \xff\xfe\n#\x80\njudge", "yes\n", 3},
	} {
		for cpus := 1; cpus <= 4; cpus++ {
			wantSession(t, cpus, row.text, row.told, row.count)
		}
	}
}

func TestAsManyLinesAsASessionMayHave(t *testing.T) {
	for cpus := 1; cpus <= 4; cpus++ {
		for _, row := range []struct{ line, told string }{{"", ""}, {"#", ""}, {"# x", ""}, {"judge", "yes\n"}, {"turns", "none\n"}, {"what", "what\n"}, {"sleep 1", "none\n"}} {
			for _, count := range []int{1, 2, 149, 150} {
				text := strings.Repeat(row.line+"\n", count)
				wantSession(t, cpus, text, strings.Repeat(row.told, count), count)
				if row.line != "" {
					wantSession(t, cpus, strings.TrimSuffix(text, "\n"), strings.Repeat(row.told, count), count)
				}
			}
			for _, count := range []int{151, 152, 300, 2000} {
				text := strings.Repeat(row.line+"\n", count)
				wantSession(t, cpus, text, "", -2)
				if row.line != "" {
					wantSession(t, cpus, strings.TrimSuffix(text, "\n"), "", -2)
				}
			}
		}
		// what stands behind the last byte 10 is a line just where it is not empty
		wantSession(t, cpus, strings.Repeat("\n", 150), "", 150)
		wantSession(t, cpus, strings.Repeat("\n", 150)+"#", "", -2)
		wantSession(t, cpus, strings.Repeat("\n", 149)+"#", "", 150)
		wantSession(t, cpus, strings.Repeat("\n", 149)+"judge", "yes\n", 150)
		wantSession(t, cpus, strings.Repeat("\n", 149)+"judge\n", "yes\n", 150)
		wantSession(t, cpus, strings.Repeat("\n", 149)+"judge\n ", "", -2)
		wantSession(t, cpus, strings.Repeat("\n", 151), "", -2)
	}
}

func TestAsLongATextAsASessionMayHave(t *testing.T) {
	comment := func(length int) string { return "#" + strings.Repeat("x", length-1) }
	for cpus := 1; cpus <= 4; cpus++ {
		for _, length := range []int{1, 19999, 20000} {
			wantSession(t, cpus, comment(length), "", 1)
			wantSession(t, cpus, strings.Repeat("x", length), "what\n", 1)
			wantSession(t, cpus, strings.Repeat(" ", length), "what\n", 1)
			wantSession(t, cpus, strings.Repeat("\xff", length), "what\n", 1)
			wantSession(t, cpus, strings.Repeat("1", length), "what\n", 1)
		}
		wantSession(t, cpus, comment(19999)+"\n", "", 1)
		wantSession(t, cpus, comment(19994)+"\njudge", "yes\n", 2)
		wantSession(t, cpus, comment(19993)+"\njudge\n", "yes\n", 2)
		wantSession(t, cpus, "judge\n"+comment(19994), "yes\n", 2)
		for _, text := range []string{comment(20001), comment(20000) + "\n", comment(19995) + "\njudge", comment(19994) + "\njudge\n", "judge\n" + comment(19995),
			strings.Repeat(" ", 20001), strings.Repeat("x", 20001), strings.Repeat("\xff", 20001), strings.Repeat("é", 10001), comment(100000)} {
			wantSession(t, cpus, text, "", -1)
		}
		// bytes count, not runes
		wantSession(t, cpus, strings.Repeat("é", 10000), "what\n", 1)
		wantSession(t, cpus, "#"+strings.Repeat("世", 6666)+"x", "", 1)
		wantSession(t, cpus, "#"+strings.Repeat("世", 6666)+"xy", "", -1)
	}
}

// Too long, or no processors, is told ahead of too many lines.
func TestWhichOfBothComesFirst(t *testing.T) {
	for cpus := 1; cpus <= 4; cpus++ {
		wantSession(t, cpus, strings.Repeat("\n", 20000), "", -2)
		wantSession(t, cpus, strings.Repeat("\n", 20001), "", -1)
		wantSession(t, cpus, strings.Repeat("#\n", 10000), "", -2)
		wantSession(t, cpus, strings.Repeat("#\n", 10000)+"#", "", -1)
		wantSession(t, cpus, strings.Repeat("\n", 150)+strings.Repeat("x", 19850), "", -2)
		wantSession(t, cpus, strings.Repeat("\n", 150)+strings.Repeat("x", 19851), "", -1)
		wantSession(t, cpus, strings.Repeat("\n", 149)+"#"+strings.Repeat("x", 19850), "", 150)
	}
	for _, cpus := range []int{0, 5, -1, math.MinInt, math.MaxInt} {
		wantSession(t, cpus, strings.Repeat("\n", 151), "", -1)
		wantSession(t, cpus, strings.Repeat("\n", 20000), "", -1)
		wantSession(t, cpus, strings.Repeat("\n", 20001), "", -1)
	}
}

// Promise 14: a session tells what SysLine tells, line by line.
func TestASessionTellsWhatSysLineTells(t *testing.T) {
	var n numbers
	seen := map[string]int{}
	invalid := 0
	for run := range 400 {
		cpus := 1 + run%4
		s, _ := impl.SysNew(cpus)
		var lines []string
		var told strings.Builder
		for range n.oneOf(1, 10, 50, 149, 150) {
			line := n.anyLine(s)
			if n.below(3) == 0 {
				line, _ = impl.CallLine(n.pressing(s))
			}
			next, word := impl.SysLine(s, line)
			s = next
			lines = append(lines, line)
			if word != "" {
				told.WriteString(word + "\n")
			}
			seen[strings.Trim(word, "0123456789:/ ")]++
		}
		text := strings.Join(lines, "\n") + "\n"
		if !utf8.ValidString(text) {
			invalid++
		}
		wantSession(t, cpus, text, told.String(), len(lines))
		want, count := sessionByWord(cpus, text)
		wantSession(t, cpus, text, want, count)
		if want != told.String() || count != len(lines) {
			t.Fatalf("%q and %q of %q", told.String(), want, text)
		}
		// without its last byte it is the same, but for a last line that is empty
		want, count = sessionByWord(cpus, text[:len(text)-1])
		wantSession(t, cpus, text[:len(text)-1], want, count)
		// cut off anywhere it tells the beginning of it
		cut := n.below(len(lines) + 1)
		ahead, count := impl.Session(cpus, strings.Join(append(slices.Clone(lines[:cut]), ""), "\n"))
		if !strings.HasPrefix(told.String(), ahead) || count != cut {
			t.Fatalf("%q ahead of line %d of %q", ahead, cut, text)
		}
	}
	for _, word := range []string{"", "ok", "bad", "none", "known", "full", "state", "cycle", "what", "yes"} {
		if seen[word] < 5 {
			t.Errorf("too few to tell: %d of %q", seen[word], word)
		}
	}
	if invalid < 20 {
		t.Errorf("too few to tell: %d texts that are no right UTF-8", invalid)
	}
}

// A session of calls tells what SysRun tells of them.
func TestASessionOfCallsIsARun(t *testing.T) {
	var n numbers
	for run := range 100 {
		cpus := 1 + run%4
		s, _ := impl.SysNew(cpus)
		var calls []impl.Call
		text := ""
		for last := s; len(calls) < 150; {
			c := n.pressing(last)
			line, ok := impl.CallLine(c)
			if !ok {
				continue
			}
			last, _ = impl.SysRun(last, []impl.Call{c})
			calls, text = append(calls, c), text+line+"\n"
		}
		_, codes := impl.SysRun(s, calls)
		told := ""
		for _, code := range codes {
			told += []string{"ok", "bad", "none", "known", "full", "state", "cycle"}[code] + "\n"
		}
		wantSession(t, cpus, text, told, 150)
	}
}

// Texts of any bytes, with and without those that lines are made of.
func TestManySessionsByWord(t *testing.T) {
	var n numbers
	for range 6000 {
		bytes := make([]byte, n.below(n.oneOf(5, 40, 400)))
		for i := range bytes {
			bytes[i] = byte(n.oneOf('\n', '\n', ' ', '#', '0', '1', '-', int("judgeturnsticks"[n.below(15)]), n.below(256), n.below(256)))
		}
		text := string(bytes)
		cpus := n.below(7) - 1
		want, count := sessionByWord(cpus, text)
		wantSession(t, cpus, text, want, count)
		line := strings.ReplaceAll(text, "\n", " ")
		wantParsedByWord(t, line)
	}
}

// The texts of one answer stay when others are asked for.
func TestDeskKeepsNothing(t *testing.T) {
	for range 3 {
		wantLine(t, sleepCall(3), "sleep 3")
		wantNoCall(t, "sleep 03")
		wantNoLine(t, impl.Call{})
		wantText(t, "0:1/2", turnOf(0, 1, 2))
		wantText(t, "", turnOf(0, 1, 1001))
		wantAnswer(t, busySys(), "judge", "no")
		wantAnswer(t, impl.Sys{}, "judge", "bad")
		wantAnswer(t, busySys(), "what", "what")
		wantSession(t, 1, "fair 1 0 0\nfair 1 0 0", "ok\nknown\n", 2)
		wantSession(t, 0, "fair 1 0 0", "", -1)
		wantSession(t, 1, strings.Repeat("\n", 151), "", -2)
	}
}

func TestDesksSideBySide(t *testing.T) {
	texts := []string{"fair 1 0 0\nticks 3\nturns", "due 1 0 1 2\nticks 2\nturns\nwhat", "sleep 1\nsleep x\njudge\n", strings.Repeat("\n", 151)}
	var all sync.WaitGroup
	for worker := range 16 {
		all.Go(func() {
			text := texts[worker%4]
			want, count := sessionByWord(1, text)
			for range 30 {
				if got, n := impl.Session(1, text); got != want || n != count {
					t.Errorf("Session(%q) = %q, %d", text, got, n)
				}
				if _, ok := impl.CallParse("sleep x"); ok {
					t.Error("it is read")
				}
				if c, ok := impl.CallParse("lock 1 2"); !ok || c != lockCall(1, 2) {
					t.Error("it is not read")
				}
			}
		})
	}
	all.Wait()
}
