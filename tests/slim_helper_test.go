package tests

import (
	"slices"
	"strings"
	"testing"

	"loop.example/shieling/impl"
)

// slimRule is one of the functions of chapter 4, and the chapter told another way, on lines.
type slimRule struct {
	name  string
	slim  func(list []op) []op
	model func(lines []string) []string
}

var (
	slimTexts = slimRule{"SlimTexts", impl.SlimTexts, modelTexts}
	slimPairs = slimRule{"SlimPairs", impl.SlimPairs, modelPairs}
	slimMoves = slimRule{"SlimMoves", impl.SlimMoves, modelMoves}
	slimAll   = slimRule{"Slim", impl.Slim, modelSlim}
	slimRules = []slimRule{slimTexts, slimPairs, slimMoves, slimAll}
)

// slimCase is a list and what a rule answers, lines with a semicolon and a space between.
type slimCase struct {
	why  string
	list string
	want string
}

func splitLines(text string) []string {
	if text == "" {
		return nil
	}
	return strings.Split(text, "; ")
}

func linesOf(list []op) []string {
	var lines []string
	for _, o := range list {
		lines = append(lines, lineText(o))
	}
	return lines
}

func wantCases(t *testing.T, rule slimRule, cases []slimCase) {
	t.Helper()
	for _, c := range cases {
		list := opsOf(t, splitLines(c.list)...)
		if got := wantSlim(t, rule, list); strings.Join(linesOf(got), "; ") != c.want {
			t.Errorf("%s, %s: of %q it is %q, not %q", rule.name, c.why, c.list, linesOf(got), c.want)
		}
	}
}

// wantSlim asks for all that is so of any list that is ok; it gives the shorter one.
func wantSlim(t *testing.T, rule slimRule, list []op) []op {
	t.Helper()
	was := slices.Clone(list)
	got := rule.slim(list)
	if !slices.Equal(list, was) {
		t.Fatalf("%s of %q: the list that was handed in is another one", rule.name, linesOf(was))
	}
	if want := rule.model(linesOf(list)); !slices.Equal(linesOf(got), want) {
		t.Fatalf("%s of %q: %q, not %q", rule.name, linesOf(was), linesOf(got), want)
	}
	named := namedIn(list)
	for id := range namedIn(got) {
		if !named[id] {
			t.Errorf("%s of %q names %d", rule.name, linesOf(was), id)
		}
	}
	if again := rule.slim(got); !impl.OpSame(again, got) {
		t.Errorf("%s of %q: %q, and once more %q", rule.name, linesOf(was), linesOf(got), linesOf(again))
	}
	return got
}

func namedIn(list []op) map[int]bool {
	ids := map[int]bool{}
	for _, o := range list {
		for _, id := range impl.OpIds(o) {
			ids[id] = true
		}
	}
	return ids
}

// wantSameDone asks for promise 4 of a list that can be done of a tree.
func wantSameDone(t *testing.T, x impl.Tree, rule slimRule, list []op) []op {
	t.Helper()
	long, code, _ := impl.ActAll(x, list)
	if code != impl.ActFine {
		t.Fatalf("%q can not be done: %d", linesOf(list), code)
	}
	left := wantSlim(t, rule, list)
	short, code, at := impl.ActAll(x, left)
	if code != impl.ActFine || at != len(left) {
		t.Fatalf("%s of %q: %q ends with %d at %d", rule.name, linesOf(list), linesOf(left), code, at)
	}
	if !impl.TreeLike(long, short) {
		t.Fatalf("%s of %q: %q leaves another tree", rule.name, linesOf(list), linesOf(left))
	}
	return left
}

// modelTexts goes through from the back: what was met there makes all texts of its number ahead of it void.
func modelTexts(lines []string) []string {
	void := map[string]bool{}
	var left []string
	for _, line := range slices.Backward(lines) {
		words := strings.Fields(line)
		if words[0] == "text" && void[words[1]] {
			continue
		}
		if words[0] == "text" || words[0] == "gone" {
			void[words[1]] = true
		}
		left = append(left, line)
	}
	slices.Reverse(left)
	return left
}

// modelPairs takes the first one out that goes again, and begins anew.
func modelPairs(lines []string) []string {
	for at, line := range lines {
		words := strings.Fields(line)
		if words[0] != "file" && words[0] != "dir" {
			continue
		}
		id := words[1]
		gone := slices.IndexFunc(lines[at+1:], func(s string) bool { return strings.HasPrefix(s, "gone "+id+" ") })
		if gone < 0 {
			continue
		}
		end := at + 1 + gone
		if slices.ContainsFunc(lines[at+1:end+1], func(s string) bool { return slices.Contains(dirsIn(s), id) }) {
			continue
		}
		var left []string
		for i, s := range lines {
			if i < at || i > end || strings.Fields(s)[1] != id {
				left = append(left, s)
			}
		}
		return modelPairs(left)
	}
	return lines
}

// dirsIn is the numbers of the directories that a line names.
func dirsIn(line string) []string {
	words := strings.Fields(line)
	switch words[0] {
	case "text":
		return nil
	case "move":
		return []string{words[2], words[4]}
	}
	return words[2:3]
}

// modelMoves is a stack: what comes is joined to the top, or is the top.
func modelMoves(lines []string) []string {
	var stack []string
	for _, line := range lines {
		top := len(stack) - 1
		if top < 0 {
			stack = append(stack, line)
			continue
		}
		first, second := strings.Fields(stack[top]), strings.Fields(line)
		put := first[len(first)-2:]
		joins := second[0] == "move" && first[1] == second[1] && slices.Equal(put, second[2:4]) &&
			slices.Contains([]string{"file", "dir", "move"}, first[0])
		switch {
		case !joins:
			stack = append(stack, line)
		case first[0] == "move" && slices.Equal(first[2:4], second[4:]):
			stack = stack[:top]
		default:
			copy(put, second[4:])
			stack[top] = strings.Join(first, " ")
		}
	}
	return stack
}

func modelSlim(lines []string) []string {
	left := modelMoves(modelPairs(modelTexts(lines)))
	if len(left) < len(lines) {
		return modelSlim(left)
	}
	return left
}

// slimDice draws what can be done of a tree; often of what was last met, so that much of it can be made shorter.
type slimDice struct {
	actDice
	last int
}

// list is at most that long; the tree behind it is told, too.
func (d *slimDice) list(x impl.Tree, most int) ([]op, impl.Tree) {
	var list []op
	for range 4 * most {
		o := d.next(x)
		y, code := impl.ActDo(x, o)
		if code != impl.ActFine {
			continue
		}
		list, x, d.last = append(list, o), y, o.Id
		if len(list) == most {
			break
		}
	}
	return list, x
}

func (d *slimDice) next(x impl.Tree) op {
	names := []string{"a", "b", "c", "abcd"}
	to := actPlace{d.dirOf(x), names[d.below(len(names))]}
	id := d.last
	if d.below(3) == 0 {
		id = 1 + d.below(impl.TreeMax-1)
	}
	if id == 0 || x.Objs[id].Kind == impl.TreeNone {
		return op{Kind: impl.OpFile + d.below(2), Id: 1 + d.below(impl.TreeMax-1), Dir: to.dir, Name: to.name}
	}
	at := modelOf(x).home[id]
	switch d.below(4) {
	case 0:
		return op{Kind: impl.OpGone, Id: id, Dir: at.dir, Name: at.name}
	case 1:
		if x.Objs[id].Kind == impl.TreeFile {
			return op{Kind: impl.OpText, Id: id, Text: names[d.below(len(names))]}
		}
		return op{Kind: impl.OpFile, Id: 1 + d.below(impl.TreeMax-1), Dir: id, Name: to.name}
	}
	return op{Kind: impl.OpMove, Id: id, Dir: at.dir, Name: at.name, Dir2: to.dir, Name2: to.name}
}
