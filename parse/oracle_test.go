package parse

import (
	"fmt"
	"maps"
	"regexp"
	"slices"
	"strings"
	"testing"

	"cadastre/api"
	"cadastre/lex"
)

// What the chapter's words come to, reckoned apart from the package. Which tokens may follow which is told by the grammar's rules, all ways at once (a chart of items, after Earley); a whole formula is cut at the last of its loosest signs; how deep a token lies is counted from the tokens ahead of it.

// answer is what Formula answers.
type answer struct {
	tree api.Exp
	at   int
	e    api.Errno
}

func got(tree api.Exp, at int, e api.Errno) answer { return answer{tree, at, e} }

func refused(at int, e api.Errno) answer { return answer{at: at, e: e} }

func (a answer) String() string { return fmt.Sprintf("%s, %d, %d", shape(a.tree), a.at, int(a.e)) }

func (a answer) is(b answer) bool { return alike(a.tree, b.tree) && a.at == b.at && a.e == b.e }

// alike tells whether two trees have the same in all fields, those that play no part too.
func alike(a, b api.Exp) bool {
	return a.K == b.K && a.N == b.N && a.S == b.S && a.E == b.E && a.R == b.R && a.R2 == b.R2 && slices.EqualFunc(a.L, b.L, alike)
}

// shape is a tree as a text with brackets around each part.
func shape(e api.Exp) string {
	var parts []string
	for _, part := range e.L {
		parts = append(parts, shape(part))
	}
	list := strings.Join(parts, " ")
	switch e.K {
	case api.XNum:
		return fmt.Sprint(float64(e.N) / 10000)
	case api.XText:
		return fmt.Sprintf("%q", e.S)
	case api.XBool:
		return []string{"F", "T"}[e.N&1]
	case api.XErr:
		return fmt.Sprintf("#%d", e.E)
	case api.XRef:
		return place(e.R)
	case api.XRange:
		return place(e.R) + ".." + place(e.R2)
	case api.XNeg:
		return "[neg " + list + "]"
	case api.XBin, api.XCall:
		return "[" + e.S + " " + list + "]"
	}
	return fmt.Sprintf("kind %d", e.K)
}

// place is a reference as row and column, a $ ahead of each that is absolute.
func place(r api.Ref) string {
	dollar := map[bool]string{true: "$"}
	return fmt.Sprintf("%sr%d%sc%d", dollar[r.AbsRow], r.Row, dollar[r.AbsCol], r.Col)
}

// functions are the names of those that are known, by how many arguments they have.
var functions = map[[2]int]string{
	{1, 20}: "SUM COUNT MIN MAX AVERAGE AND OR CONCAT",
	{2, 3}:  "IF INDEX",
	{2, 2}:  "ROUND MOD IFERROR",
	{1, 2}:  "LEFT",
	{1, 1}:  "NOT ABS FLOOR SQRT LEN ISERROR",
}

// tightness has the signs that stand between two formulas, the loosest first.
var tightness = []string{"= <> < <= > >=", "&", "+ -", "* /"}

var referenceForm = regexp.MustCompile(`^(\$?)(A?[A-Z])(\$?)([1-9][0-9]{0,2}|1000)$`)

// class is what a token is to the grammar.
func class(token api.Token) string {
	switch token.K {
	case api.TokNum, api.TokText, api.TokErr:
		return "plain"
	case api.TokSign:
		return token.S
	case api.TokEnd:
		return "end"
	}
	if token.S == "TRUE" || token.S == "FALSE" {
		return "plain"
	}
	if referenceForm.MatchString(token.S) {
		return "ref"
	}
	for bounds, names := range functions {
		if slices.Contains(strings.Fields(names), token.S) {
			return fmt.Sprint("call ", bounds)
		}
	}
	return "unknown"
}

// rule says of which parts a thing is made.
type rule struct {
	of    string
	parts []string
}

// item is a rule of which some parts have been seen, from some place on.
type item struct {
	rule, seen, from int
}

// grammar is the chapter's rules.
var grammar = rules()

func rules() []rule {
	list := []rule{{"all", []string{"Tight0", "end"}}}
	add := func(of string, parts ...string) { list = append(list, rule{of, parts}) }
	for i, signs := range tightness {
		this, next := fmt.Sprint("Tight", i), fmt.Sprint("Tight", i+1)
		add(this, next)
		for _, sign := range strings.Fields(signs) {
			add(this, this, sign, next)
		}
	}
	add("Tight4", "Simple")
	add("Tight4", "-", "Tight4")
	add("Simple", "plain")
	add("Simple", "ref")
	add("Simple", "(", "Tight0", ")")
	add("Argument", "Tight0")
	add("Argument", "ref", ":", "ref")
	add("List1", "Argument")
	for n := 2; n <= 20; n++ {
		add(fmt.Sprint("List", n), fmt.Sprint("List", n-1), ",", "Argument")
	}
	for bounds := range functions {
		for n := bounds[0]; n <= bounds[1]; n++ {
			add("Simple", fmt.Sprint("call ", bounds), "(", fmt.Sprint("List", n), ")")
		}
	}
	return list
}

// byName is where each thing's rules are.
var byName = func() map[string][]int {
	at := map[string][]int{}
	for i, r := range grammar {
		at[r.of] = append(at[r.of], i)
	}
	return at
}()

// chart has for each place the items that may stand there.
type chart []map[item]bool

// begin is the chart ahead of the first token.
func begin() chart {
	return chart{}.closed(map[item]bool{{0, 0, 0}: true})
}

// closed adds what begins at the last place and what ends there.
func (c chart) closed(last map[item]bool) chart {
	c = append(slices.Clip(c), last)
	here := len(c) - 1
	work := slices.Collect(maps.Keys(last))
	see := func(i item) {
		if !last[i] {
			last[i] = true
			work = append(work, i)
		}
	}
	for len(work) > 0 {
		i := work[0]
		work = work[1:]
		parts := grammar[i.rule].parts
		if i.seen < len(parts) {
			for _, r := range byName[parts[i.seen]] {
				see(item{r, 0, here})
			}
			continue
		}
		for outer := range c[i.from] {
			if next := grammar[outer.rule].parts; outer.seen < len(next) && next[outer.seen] == grammar[i.rule].of {
				see(item{outer.rule, outer.seen + 1, outer.from})
			}
		}
	}
	return c
}

// after is the chart with one token more, and whether that token may stand there.
func (c chart) after(token string) (chart, bool) {
	next := map[item]bool{}
	for i := range c[len(c)-1] {
		if parts := grammar[i.rule].parts; i.seen < len(parts) && parts[i.seen] == token {
			next[item{i.rule, i.seen + 1, i.from}] = true
		}
	}
	if len(next) == 0 {
		return nil, false
	}
	return c.closed(next), true
}

// kept are the tokens that firstWrong saw last, and the chart of as many of them as may stand there: what begins alike is not reckoned again.
var kept struct {
	tokens []string
	c      chart
}

// firstWrong is which token is the first with which no formula begins, or how many tokens there are.
func firstWrong(tokens []api.Token) int {
	var classes []string
	alike := 0
	for i, token := range tokens {
		classes = append(classes, class(token))
		if alike == i && i < len(kept.tokens) && i+1 < len(kept.c) && kept.tokens[i] == classes[i] {
			alike++
		}
	}
	c := begin()
	if alike > 0 {
		c = kept.c[:alike+1]
	}
	for i := alike; i < len(tokens); i++ {
		next, ok := c.after(classes[i])
		if !ok {
			kept.tokens, kept.c = classes, c
			return i
		}
		c = next
	}
	kept.tokens, kept.c = classes, c
	return len(tokens)
}

// firstDeep is which token is the first that lies in more than 40 brackets, calls and signs ahead, or how many tokens there are.
func firstDeep(tokens []api.Token) int {
	deep, ahead := 0, 0
	var opened []int
	for i, token := range tokens {
		if deep+ahead > 40 {
			return i
		}
		switch {
		case isAhead(tokens, i):
			ahead++
		case class(token) == "(":
			opened = append(opened, ahead+1)
			deep, ahead = deep+ahead+1, 0
		case class(token) == ")" && len(opened) > 0:
			deep -= opened[len(opened)-1]
			opened = opened[:len(opened)-1]
		case !strings.HasPrefix(class(token), "call"):
			ahead = 0
		}
	}
	return len(tokens)
}

// isAhead tells whether a token is a - that stands between no two formulas.
func isAhead(tokens []api.Token, i int) bool {
	if class(tokens[i]) != "-" {
		return false
	}
	return i == 0 || tokens[i-1].K == api.TokSign && tokens[i-1].S != ")"
}

// asked is what Formula should answer.
func asked(s string) answer {
	tokens, at, e := lex.Words(s)
	if e != api.OK {
		return refused(at, e)
	}
	wrong, deep := firstWrong(tokens), firstDeep(tokens)
	switch {
	case deep < wrong:
		return refused(tokens[deep].At, api.ErrLong)
	case wrong < len(tokens):
		return refused(tokens[wrong].At, api.ErrForm)
	}
	return answer{tree: cut(tokens[:len(tokens)-1])}
}

// cut is the tree of a whole formula, or of an argument.
func cut(tokens []api.Token) api.Exp {
	if len(tokens) == 3 && class(tokens[1]) == ":" {
		return api.Exp{K: api.XRange, R: referred(tokens[0].S), R2: referred(tokens[2].S)}
	}
	for _, signs := range tightness {
		outer := outside(tokens, strings.Fields(signs)...)
		if len(outer) > 0 {
			i := outer[len(outer)-1]
			return api.Exp{K: api.XBin, S: tokens[i].S, L: []api.Exp{cut(tokens[:i]), cut(tokens[i+1:])}}
		}
	}
	first := tokens[0]
	switch kind := class(first); {
	case kind == "-":
		return api.Exp{K: api.XNeg, L: []api.Exp{cut(tokens[1:])}}
	case kind == "(":
		return cut(tokens[1 : len(tokens)-1])
	case kind == "ref":
		return api.Exp{K: api.XRef, R: referred(first.S)}
	case strings.HasPrefix(kind, "call"):
		call, inside := api.Exp{K: api.XCall, S: first.S}, tokens[2:len(tokens)-1]
		from := 0
		for _, i := range append(outside(inside, ","), len(inside)) {
			call.L = append(call.L, cut(inside[from:i]))
			from = i + 1
		}
		return call
	case first.K == api.TokWord:
		return api.Exp{K: api.XBool, N: map[string]int64{"TRUE": 1}[first.S]}
	}
	return api.Exp{K: map[int]int{api.TokNum: api.XNum, api.TokText: api.XText, api.TokErr: api.XErr}[first.K], N: first.N, S: first.S, E: first.E}
}

// outside are the places of these signs that stand between two formulas, and in no brackets.
func outside(tokens []api.Token, signs ...string) []int {
	var places []int
	open := 0
	for i, token := range tokens {
		switch class(token) {
		case "(":
			open++
		case ")":
			open--
		}
		if open == 0 && slices.Contains(signs, class(token)) && !isAhead(tokens, i) {
			places = append(places, i)
		}
	}
	return places
}

// referred is the reference that a word says.
func referred(word string) api.Ref {
	part := referenceForm.FindStringSubmatch(word)
	r := api.Ref{AbsCol: part[1] != "", AbsRow: part[3] != ""}
	for _, letter := range part[2] {
		r.Col = 26*r.Col + int(letter-'@')
	}
	fmt.Sscan(part[4], &r.Row)
	return r
}

// same holds what Formula answers of s against what it should.
func same(t *testing.T, s string) answer {
	t.Helper()
	a, want := got(Formula(s)), asked(s)
	if !a.is(want) {
		t.Errorf("Formula of %d bytes, %.90q: %v, not %v", len(s), s, a, want)
	}
	return a
}

// grown shows all texts of at most so many of these pieces, with a blank behind each, of which all but the last are the beginning of a formula, and whether the last is, too.
func grown(pieces []string, most int, see func(s string, begun bool)) {
	var grow func(s string, c chart, left int)
	grow = func(s string, c chart, left int) {
		for _, piece := range pieces {
			tokens, _, _ := lex.Words(piece)
			next, ok := c.after(class(tokens[0]))
			see(s+piece+" ", ok)
			if ok && left > 1 {
				grow(s+piece+" ", next, left-1)
			}
		}
	}
	grow("", begin(), most)
}
