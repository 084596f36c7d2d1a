package tests

import (
	"fmt"
	"regexp"
	"slices"
	"strconv"
	"strings"

	"loop.example/storeofkeys/impl"
)

// onePattern is how a step is written, and queryPattern how a query is.
const onePattern = `(?:range [a-z]{1,3} [a-z]{1,3}|(?:from|under|with) [a-z]{1,3}|first (?:[0-9]|1[0-9]|2[0-4])|rev)`

var queryPattern = regexp.MustCompile(`\A(?:` + onePattern + `(?: \| ` + onePattern + `){0,7})?\z`)

// stepsModel tells the steps of a text, and whether it is a query.
func stepsModel(s string) ([]impl.Step, bool) {
	if len(s) > 120 || !queryPattern.MatchString(s) {
		return nil, false
	}
	var steps []impl.Step
	words := strings.Fields(s)
	for len(words) > 0 {
		size := map[string]int{"range": 3, "rev": 1}[words[0]]
		if size == 0 {
			size = 2
		}
		step := impl.Step{Kind: words[0]}
		switch {
		case size == 3:
			step.A, step.B = words[1], words[2]
		case words[0] == "first":
			step.N, _ = strconv.Atoi(words[1])
		case size == 2:
			step.A = words[1]
		}
		steps = append(steps, step)
		words = words[min(size+1, len(words)):]
	}
	return steps, true
}

// stepsText writes steps as a query.
func stepsText(steps []impl.Step) string {
	text := ""
	for i, s := range steps {
		if i > 0 {
			text += " | "
		}
		switch s.Kind {
		case "range":
			text += fmt.Sprintf("range %s %s", s.A, s.B)
		case "first":
			text += fmt.Sprintf("first %d", s.N)
		case "rev":
			text += "rev"
		default:
			text += fmt.Sprintf("%s %s", s.Kind, s.A)
		}
	}
	return text
}

// behindStep tells the pairs behind one step.
func behindStep(s impl.Step, list []impl.Pair) []impl.Pair {
	var behind []impl.Pair
	for i, p := range list {
		there := false
		switch s.Kind {
		case "range":
			there = strings.Compare(p.Key, s.A) >= 0 && strings.Compare(p.Key, s.B) < 0
		case "from":
			there = strings.Compare(p.Key, s.A) >= 0
		case "under":
			there = strings.Compare(p.Key, s.A) < 0
		case "with":
			there = len(p.Key) >= len(s.A) && p.Key[:len(s.A)] == s.A
		case "first":
			there = i+1 <= s.N
		case "rev":
			behind = append([]impl.Pair{p}, behind...)
		}
		if there {
			behind = append(behind, p)
		}
	}
	return behind
}

// behindSteps tells the pairs behind steps, and how many pairs these look at.
func behindSteps(steps []impl.Step, list []impl.Pair) ([]impl.Pair, int) {
	cost := 0
	for i, s := range steps {
		if i > 0 || s.Kind == "with" || s.Kind == "rev" {
			cost += len(list)
		}
		list = behindStep(s, list)
	}
	return list, cost
}

// boundsOf tells the least text that a step lets a key be, and the least one
// behind it that it does not, ~ for none, and whether it is such a step.
func boundsOf(s impl.Step) (string, string, bool) {
	switch s.Kind {
	case "range":
		return s.A, s.B, true
	case "from":
		return s.A, "~", true
	case "under":
		return "", s.A, true
	}
	return "", "", false
}

// boundedStep returns the step of bounds as boundsOf tells them.
func boundedStep(low, high string) impl.Step {
	if low == "" {
		return impl.Step{Kind: "under", A: high}
	}
	if high == "~" {
		return impl.Step{Kind: "from", A: low}
	}
	return impl.Step{Kind: "range", A: low, B: high}
}

// firstNone is the step that leaves no pairs.
var firstNone = impl.Step{Kind: "first"}

// besideModel tells what two steps side by side become by a rule.
func besideModel(a, b impl.Step) ([]impl.Step, bool) {
	low, high, spanA := boundsOf(a)
	otherLow, otherHigh, spanB := boundsOf(b)
	switch kinds := a.Kind + " " + b.Kind; {
	case kinds == "rev rev":
		return nil, true
	case spanB && (a.Kind == "rev" || a.Kind == "with"), kinds == "rev with":
		return []impl.Step{b, a}, true
	case kinds == "first first" && a.N < b.N:
		return []impl.Step{a}, true
	case kinds == "first first":
		return []impl.Step{b}, true
	case kinds == "with with":
		return []impl.Step{bothOpenings(a, b)}, true
	case spanA && spanB:
		lows, highs := []string{low, otherLow}, []string{high, otherHigh}
		return []impl.Step{boundedStep(slices.Max(lows), slices.Min(highs))}, true
	}
	return nil, false
}

// bothOpenings tells the one step that two steps with are.
func bothOpenings(a, b impl.Step) impl.Step {
	if len(a.A) < len(b.A) {
		a, b = b, a
	}
	if a.A[:len(b.A)] != b.A {
		return firstNone
	}
	return a
}

// rulesModel tells what steps become by one rule at one place, from the first
// step on, as queries.
func rulesModel(steps []impl.Step) []string {
	var queries []string
	for i, s := range steps {
		if s.Kind == "range" && s.A >= s.B {
			other := slices.Clone(steps)
			other[i] = firstNone
			queries = append(queries, stepsText(other))
		}
		if s == firstNone && len(steps) >= 2 {
			queries = append(queries, "first 0")
		}
		if i+1 == len(steps) {
			break
		}
		if both, ok := besideModel(s, steps[i+1]); ok {
			queries = append(queries, stepsText(slices.Replace(slices.Clone(steps), i, i+2, both...)))
		}
	}
	return queries
}

// bestModel tells the best query without any rule: of the steps between two of
// first, one with bounds, one with an opening, and one that turns, if there are
// such; steps first with none of them between are one.
func bestModel(steps []impl.Step) string {
	low, high, opening, turned := "", "~", "", false
	var best []impl.Step
	between := func() {
		if low != "" || high != "~" {
			best = append(best, boundedStep(low, high))
		}
		if opening != "" {
			best = append(best, impl.Step{Kind: "with", A: opening})
		}
		if turned {
			best = append(best, impl.Step{Kind: "rev"})
		}
		low, high, opening, turned = "", "~", "", false
	}
	for _, s := range steps {
		if from, to, ok := boundsOf(s); ok {
			low, high = max(low, from), min(high, to)
		}
		switch s.Kind {
		case "with":
			if !strings.HasPrefix(s.A, opening) && !strings.HasPrefix(opening, s.A) {
				return "first 0"
			}
			opening += s.A[min(len(opening), len(s.A)):]
		case "rev":
			turned = !turned
		case "first":
			between()
			if last := len(best) - 1; last >= 0 && best[last].Kind == "first" {
				s.N = min(s.N, best[last].N)
				best = best[:last]
			}
			best = append(best, s)
		}
		if low >= high || s == firstNone {
			return "first 0"
		}
	}
	between()
	return stepsText(best)
}

// joinModel tells the pairs of keys of both stores.
func joinModel(a, b []impl.Pair) []impl.Pair {
	values := map[string]string{}
	for _, p := range b {
		values[p.Key] = "=" + p.Value
	}
	var joined []impl.Pair
	for _, p := range a {
		if text, there := values[p.Key]; there && len(p.Value+text) <= 5 {
			joined = append(joined, impl.Pair{Key: p.Key, Value: p.Value + text[1:]})
		}
	}
	return joined
}

// eachQuery calls f with all queries of at most so many steps of a choice, which
// has a comma between two steps.
func eachQuery(size int, choice string, f func(s string)) {
	var grow func(s string, left int)
	grow = func(s string, left int) {
		f(s)
		if left == 0 {
			return
		}
		for _, step := range strings.Split(choice, ", ") {
			if s == "" {
				grow(step, left-1)
			} else {
				grow(s+" | "+step, left-1)
			}
		}
	}
	grow("", size)
}

// someStep returns a step, whose texts are of a few first letters, of which
// there are so many: the first kinds, so many, are those that there are most of.
func someStep(next func(int) int, letters, most int) string {
	text := func() string {
		key := make([]byte, 1+next(3))
		for i := range key {
			key[i] = byte('a' + next(letters))
		}
		return string(key)
	}
	kind := next(6)
	if next(2) == 0 {
		kind = min(kind, most)
	}
	switch kind {
	case 0:
		return "rev"
	case 1:
		return "with " + text()
	case 2:
		return "from " + text()
	case 3:
		return "under " + text()
	case 4:
		return "range " + text() + " " + text()
	default:
		return "first " + strconv.Itoa(next(25))
	}
}

// walkedQueries returns queries of any number of steps.
func walkedQueries(count int) []string {
	next := rolls(227)
	all := fullQueries()
	for i := range count {
		var steps []string
		for range next(9) {
			steps = append(steps, someStep(next, 1+i%4, i/4%6))
		}
		all = append(all, strings.Join(steps, " | "))
	}
	return slices.DeleteFunc(all, func(s string) bool { return len(s) > 120 })
}

// fullQueries returns queries of as many steps as there may be, or of as many
// bytes, or of both.
func fullQueries() []string {
	wide := strings.Repeat("range abc xyz | ", 7)
	return []string{
		wide + "from abd",
		wide + "with abd",
		wide + "first 24",
		"under ab | " + strings.Repeat("range abc xyz | ", 6) + "range abc xyz",
		strings.Repeat("rev | ", 7) + "rev",
		strings.Repeat("first 24 | ", 7) + "first 23",
		"with a | with ab | with abc | rev | rev | rev | rev | from a",
		"rev | with a | rev | with ab | rev | from a | rev | under b",
		"rev | with a | first 9 | rev | from ab | first 8 | with a | under b",
		"first 3 | rev | rev | first 5 | with b | from b | rev | under c",
		"rev | rev | rev | rev | rev | rev | rev | range b a",
		"with a | rev | with a | rev | with a | rev | with b | rev",
	}
}

// fewSteps are steps of all kinds, and rareSteps fewer of them for longer queries.
const (
	fewSteps  = "range a b, range ab c, range b a, range ab ab, from a, from ab, from b, under a, under ab, under b, with a, with ab, with b, first 0, first 1, first 3, rev"
	rareSteps = "range a b, from ab, with a, with ab, first 2, rev"
)

// manyQueries calls f with all short queries, with longer ones of fewer steps,
// with walked ones, and with as long ones as there may be.
func manyQueries(f func(s string)) {
	eachQuery(3, fewSteps, f)
	eachQuery(5, rareSteps, f)
	for _, s := range walkedQueries(6000) {
		f(s)
	}
}

// manyStores returns pairs on which queries are run: none, few, and as many as
// there may be.
func manyStores() [][]impl.Pair {
	stores := [][]impl.Pair{nil, rising(24)}
	for _, text := range []string{
		"a=", "b=x", "a=x ab=y b=z ba=w c=v", "a= aa= aaa= aab= ab= aba= abb= abc= ac=", "abc= abd= b= bc= bd=",
		"a=x aa=y ab= ac= b=z bb= bc= c=w ca= cb= cc= d= da=", "aaa= bbb= ccc= ddd=", "za= zb= zzz=wxyz",
	} {
		stores = append(stores, pairList(text))
	}
	next := rolls(229)
	for range 3 {
		stores = append(stores, behindOps(nil, someOps(next, 40, 3)))
	}
	return stores
}

// notQueries are texts that are no queries, each for one reason.
func notQueries() []string {
	texts := []string{
		" ", "  ", "|", " | ", "||", "\n", "\x00", "\xff", "x", "a", "a b", "query", "first", "first ", "range", "range ", "range a", "range a ", "range  a", "range a  b",
		"range  ", "range ab", "range a b ", " range a b", "range a b c", "range a b 3", "range a,b", "range\ta b", "range a\tb", "range a\nb", "Range a b", "RANGE a b", "ranges a b",
		"from", "from ", "from  a", "from a ", "from a b", " from a", "froma", "From a", "from\ta", "from a\n", "from 3", "under", "under ", "under  b", "under b ", "under a b",
		"Under a", "underb", "with", "with ", "with  a", "with a ", "with a b", "With a", "with 1", "witha", "without a",
		"first x", "first a", "first  3", "first 3 ", "first 3 4", "first 3 a", "first3", "First 3", "first -1", "first -0", "first +3", "first 03", "first 00", "first 000", "first 024",
		"first 25", "first 26", "first 30", "first 99", "first 100", "first 240", "first 3.0", "first 3x", "first 0x3", "first 1e1", "first 1_0", "first \xd9\xa3", "first three",
		"first 4294967296", "first 4294967299", "first 18446744073709551616", "first 18446744073709551619", "first 9223372036854775807", "first -18446744073709551613",
		"rev ", " rev", "rev a", "rev 1", "rev rev", "Rev", "REV", "reverse", "re", "rev\n", "rev\x00", "rev\t",
		"rev |", "rev | ", "| rev", " | rev", "rev|rev", "rev |rev", "rev| rev", "rev  | rev", "rev |  rev", "rev || rev", "rev | | rev", "rev |  | rev", "rev\t|\trev", "rev | rev ", " rev | rev",
		"rev | rev |", "rev | rev | ", "rev, rev", "rev ; rev", "rev & rev", "rev\n| rev", "rev |\nrev", "rev | x", "x | rev", "rev | x | rev", "first 3 | first 25", "first 25 | first 3",
	}
	for _, key := range notKeys {
		texts = append(texts, "range "+key+" b", "range a "+key, "from "+key, "under "+key, "with "+key, "range "+key+" "+key)
	}
	long := strings.Repeat("range abc xyz | ", 7)
	return append(texts,
		strings.Repeat("rev | ", 8)+"rev", strings.Repeat("first 3 | ", 8)+"first 3", strings.Repeat("rev | ", 15)+"rev", strings.Repeat("rev | ", 19)+"rev",
		strings.Repeat("rev | ", 1000)+"rev", strings.Repeat("range a b | ", 8)+"rev",
		long+"under abc", long+"range a xy", long+"range abc xyz", long+"from abd ", " "+long+"from abd", long+"from abcd",
		strings.Repeat(" ", 121), strings.Repeat("a", 120), strings.Repeat("a", 1000000), "from "+strings.Repeat("a", 116), strings.Repeat(" | ", 40))
}
