package tests

import (
	"math"
	"slices"
	"testing"

	"loop.example/shieling/impl"
)

func TestSlimTexts(t *testing.T) {
	wantCases(t, slimTexts, []slimCase{
		{"nothing", "", ""},
		{"one text", "text 1 =a", "text 1 =a"},
		{"another text behind", "text 1 =a; text 1 =b", "text 1 =b"},
		{"the same text behind", "text 1 =a; text 1 =a", "text 1 =a"},
		{"an empty text behind", "text 1 =a; text 1 =", "text 1 ="},
		{"three texts", "text 1 =a; text 1 =b; text 1 =c", "text 1 =c"},
		{"one of another between", "text 1 =a; text 2 =b; text 1 =c", "text 2 =b; text 1 =c"},
		{"two of two, crossed", "text 1 =a; text 2 =b; text 1 =c; text 2 =d", "text 1 =c; text 2 =d"},
		{"one of another behind", "text 1 =a; text 2 =b", "text 1 =a; text 2 =b"},
		{"a number that begins alike", "text 1 =a; text 11 =b; gone 12 0 a", "text 1 =a; text 11 =b; gone 12 0 a"},
		{"the going behind", "text 1 =a; gone 1 0 x", "gone 1 0 x"},
		{"the going far behind", "text 1 =a; dir 2 0 b; text 3 =c; gone 1 0 x", "dir 2 0 b; text 3 =c; gone 1 0 x"},
		{"texts and the going", "text 1 =a; text 1 =b; gone 1 0 x", "gone 1 0 x"},
		{"another one's going", "text 1 =a; gone 2 0 x", "text 1 =a; gone 2 0 x"},
		{"a going out of it", "text 1 =a; gone 2 1 x", "text 1 =a; gone 2 1 x"},
		{"behind the going", "gone 1 0 x; text 1 =a", "gone 1 0 x; text 1 =a"},
		{"around the going", "text 1 =a; gone 1 0 x; text 1 =b", "gone 1 0 x; text 1 =b"},
		{"between two goings", "gone 1 0 x; text 1 =a; gone 1 0 y; text 1 =b; text 1 =c", "gone 1 0 x; gone 1 0 y; text 1 =c"},
		{"moved behind", "text 1 =a; move 1 0 x 0 y", "text 1 =a; move 1 0 x 0 y"},
		{"moved between", "text 1 =a; move 1 0 x 0 y; text 1 =b", "move 1 0 x 0 y; text 1 =b"},
		{"made ahead", "file 1 0 x; text 1 =a; text 1 =b", "file 1 0 x; text 1 =b"},
		{"made behind", "text 1 =a; file 1 0 x; dir 1 0 y", "text 1 =a; file 1 0 x; dir 1 0 y"},
		{"made between", "text 1 =a; file 1 0 x; text 1 =b", "file 1 0 x; text 1 =b"},
		{"what the other rules take", "file 1 0 x; text 1 =a; gone 1 0 x; move 2 0 a 0 b; move 2 0 b 0 c", "file 1 0 x; gone 1 0 x; move 2 0 a 0 b; move 2 0 b 0 c"},
	})
}

func TestSlimPairs(t *testing.T) {
	wantCases(t, slimPairs, []slimCase{
		{"nothing", "", ""},
		{"a file goes again", "file 5 0 a; gone 5 0 a", ""},
		{"a directory goes again", "dir 5 0 a; gone 5 0 a", ""},
		{"only made", "file 5 0 a; dir 6 0 b", "file 5 0 a; dir 6 0 b"},
		{"only goes", "gone 5 0 a", "gone 5 0 a"},
		{"goes ahead", "gone 5 0 a; file 5 0 a", "gone 5 0 a; file 5 0 a"},
		{"another one goes", "file 5 0 a; gone 6 0 a", "file 5 0 a; gone 6 0 a"},
		{"a text between", "file 5 0 a; text 5 =x; gone 5 0 a", ""},
		{"a text of a directory between", "dir 5 0 a; text 5 =x; gone 5 0 a", ""},
		{"a move between", "file 5 0 a; move 5 0 a 2 b; gone 5 2 b", ""},
		{"others between, ahead and behind", "dir 1 0 x; file 5 0 a; text 2 =x; text 5 =y; move 5 0 a 2 b; dir 6 0 a; gone 5 2 b; text 2 =z", "dir 1 0 x; text 2 =x; dir 6 0 a; text 2 =z"},
		{"of it ahead and behind", "text 5 =x; move 5 0 a 0 b; file 5 0 b; gone 5 0 b; text 5 =y; move 5 0 c 0 d", "text 5 =x; move 5 0 a 0 b; text 5 =y; move 5 0 c 0 d"},
		{"a file made in it", "dir 5 0 a; file 6 5 b; gone 5 0 a", "dir 5 0 a; file 6 5 b; gone 5 0 a"},
		{"a directory made in it", "dir 5 0 a; dir 6 5 b; gone 5 0 a", "dir 5 0 a; dir 6 5 b; gone 5 0 a"},
		{"one goes from it", "dir 5 0 a; gone 6 5 b; gone 5 0 a", "dir 5 0 a; gone 6 5 b; gone 5 0 a"},
		{"a move from it", "dir 5 0 a; move 6 5 b 0 c; gone 5 0 a", "dir 5 0 a; move 6 5 b 0 c; gone 5 0 a"},
		{"a move into it", "dir 5 0 a; move 6 0 b 5 c; gone 5 0 a", "dir 5 0 a; move 6 0 b 5 c; gone 5 0 a"},
		{"its own move into it", "dir 5 0 a; move 5 0 a 5 c; gone 5 0 a", "dir 5 0 a; move 5 0 a 5 c; gone 5 0 a"},
		{"its going names it as Dir", "dir 5 0 a; gone 5 5 a", "dir 5 0 a; gone 5 5 a"},
		{"its making names it as Dir", "dir 5 5 a; gone 5 0 a", ""},
		{"named ahead of it", "file 6 5 b; move 7 5 a 5 c; dir 5 0 a; gone 5 0 a", "file 6 5 b; move 7 5 a 5 c"},
		{"named behind it", "dir 5 0 a; gone 5 0 a; file 6 5 b; move 7 0 a 5 c", "file 6 5 b; move 7 0 a 5 c"},
		{"a text of the directory's number as its text", "dir 5 0 a; text 6 =5; gone 5 0 a", "text 6 =5"},
		{"one within the other", "dir 5 0 a; file 6 5 b; gone 6 5 b; gone 5 0 a", ""},
		{"three within each other", "dir 5 0 a; dir 6 5 b; file 7 6 c; gone 7 6 c; gone 6 5 b; gone 5 0 a", ""},
		{"within, and one that stays", "dir 5 0 a; file 6 5 b; text 9 =x; gone 6 5 b; gone 5 0 a", "text 9 =x"},
		{"crossed", "file 5 0 a; file 6 0 b; gone 5 0 a; gone 6 0 b", ""},
		{"the inner one stays", "dir 5 0 a; file 6 5 b; move 6 5 b 0 c; gone 5 0 a", "dir 5 0 a; file 6 5 b; move 6 5 b 0 c; gone 5 0 a"},
		{"free only when another is out", "dir 5 0 a; file 6 0 b; move 6 0 b 5 c; gone 6 5 c; gone 5 0 a", ""},
		{"within, the inner one is leaned on", "dir 5 0 a; dir 6 5 b; move 7 6 x 6 y; gone 6 5 b; gone 5 0 a", "dir 5 0 a; dir 6 5 b; move 7 6 x 6 y; gone 6 5 b; gone 5 0 a"},
		{"two of which the first counts", "file 5 0 a; gone 5 0 a; text 5 =x; gone 5 0 b", "text 5 =x; gone 5 0 b"},
		{"two, named only ahead of the second", "dir 5 0 a; gone 5 0 a; file 6 5 b; gone 5 0 b", "file 6 5 b; gone 5 0 b"},
		{"two, named ahead of the first", "dir 5 0 a; file 6 5 b; gone 5 0 a; gone 5 0 b", "dir 5 0 a; file 6 5 b; gone 5 0 a; gone 5 0 b"},
		{"made twice, goes once", "file 5 0 a; file 5 0 b; gone 5 0 b", ""},
		{"made twice, the second is free", "dir 5 0 a; file 6 5 b; dir 5 0 c; gone 5 0 c", "dir 5 0 a; file 6 5 b"},
		{"goes again twice", "file 5 0 a; gone 5 0 a; file 5 0 b; gone 5 0 b", ""},
		{"made once more behind", "file 5 0 a; gone 5 0 a; file 5 0 b", "file 5 0 b"},
		{"a number that begins alike", "file 3 0 a; gone 31 0 a; file 30 0 b; gone 3 0 a", "gone 31 0 a; file 30 0 b"},
		{"what the other rules take", "text 1 =a; text 1 =b; file 5 0 a; move 5 0 a 0 b", "text 1 =a; text 1 =b; file 5 0 a; move 5 0 a 0 b"},
	})
}

func TestSlimMoves(t *testing.T) {
	wantCases(t, slimMoves, []slimCase{
		{"nothing", "", ""},
		{"one move", "move 1 0 a 2 b", "move 1 0 a 2 b"},
		{"a file that is moved", "file 5 0 a; move 5 0 a 2 b", "file 5 2 b"},
		{"a directory that is moved", "dir 5 0 a; move 5 0 a 2 b", "dir 5 2 b"},
		{"a file that is called otherwise", "file 5 0 a; move 5 0 a 0 b", "file 5 0 b"},
		{"a file that is moved to where it is", "file 5 0 a; move 5 0 a 0 a", "file 5 0 a"},
		{"two moves", "move 1 0 a 2 b; move 1 2 b 3 c", "move 1 0 a 3 c"},
		{"away and back", "move 1 0 a 2 b; move 1 2 b 0 a", ""},
		{"away and back by name", "move 1 0 a 0 b; move 1 0 b 0 a", ""},
		{"back to the directory, by another name", "move 1 0 a 2 b; move 1 2 b 0 c", "move 1 0 a 0 c"},
		{"the name as it was, in another directory", "move 1 0 a 2 b; move 1 2 b 3 a", "move 1 0 a 3 a"},
		{"made, away and back", "file 5 0 a; move 5 0 a 2 b; move 5 2 b 0 a", "file 5 0 a"},
		{"to where it is, twice", "move 1 0 a 0 a; move 1 0 a 0 a", ""},
		{"away, and to where it is", "move 1 0 a 2 b; move 1 2 b 2 b", "move 1 0 a 2 b"},
		{"three in a row", "move 1 0 a 2 b; move 1 2 b 3 c; move 1 3 c 4 d", "move 1 0 a 4 d"},
		{"four in a row", "dir 1 0 a; move 1 0 a 2 b; move 1 2 b 3 c; move 1 3 c 4 d", "dir 1 4 d"},
		{"three, the first two away and back", "move 1 0 a 2 b; move 1 2 b 0 a; move 1 0 a 3 c", "move 1 0 a 3 c"},
		{"three, the last two away and back", "move 1 0 a 2 b; move 1 2 b 3 c; move 1 3 c 2 b", "move 1 0 a 2 b"},
		{"three, all back", "move 1 0 a 2 b; move 1 2 b 3 c; move 1 3 c 0 a", ""},
		{"four, away and back twice", "move 1 0 a 2 b; move 1 2 b 0 a; move 1 0 a 2 b; move 1 2 b 0 a", ""},
		{"what was around one that is back", "move 1 0 a 2 b; move 2 0 x 0 y; move 2 0 y 0 x; move 1 2 b 3 c", "move 1 0 a 3 c"},
		{"another between", "move 1 0 a 2 b; file 5 0 a; move 1 2 b 3 c", "move 1 0 a 2 b; file 5 0 a; move 1 2 b 3 c"},
		{"a text between", "file 5 0 a; text 5 =x; move 5 0 a 2 b", "file 5 0 a; text 5 =x; move 5 0 a 2 b"},
		{"of two Ids", "move 1 0 a 2 b; move 3 2 b 0 c", "move 1 0 a 2 b; move 3 2 b 0 c"},
		{"a file of another Id", "file 5 0 a; move 6 0 a 2 b", "file 5 0 a; move 6 0 a 2 b"},
		{"another Dir", "move 1 0 a 2 b; move 1 3 b 4 c", "move 1 0 a 2 b; move 1 3 b 4 c"},
		{"another Name", "move 1 0 a 2 b; move 1 2 c 4 c", "move 1 0 a 2 b; move 1 2 c 4 c"},
		{"another Dir of a file", "file 5 0 a; move 5 1 a 2 b", "file 5 0 a; move 5 1 a 2 b"},
		{"another Name of a directory", "dir 5 0 a; move 5 0 b 2 b", "dir 5 0 a; move 5 0 b 2 b"},
		{"from where the first one moved it from", "move 1 0 a 2 b; move 1 0 a 3 c", "move 1 0 a 2 b; move 1 0 a 3 c"},
		{"to where it was, from elsewhere", "move 1 0 a 2 b; move 1 3 c 0 a", "move 1 0 a 2 b; move 1 3 c 0 a"},
		{"one that goes, and is moved", "gone 1 0 a; move 1 0 a 2 b", "gone 1 0 a; move 1 0 a 2 b"},
		{"a text, and a move", "text 1 =a; move 1 0 a 2 b", "text 1 =a; move 1 0 a 2 b"},
		{"a move, and made", "move 1 0 a 2 b; file 1 2 b; dir 1 2 b", "move 1 0 a 2 b; file 1 2 b; dir 1 2 b"},
		{"a move, and gone", "move 1 0 a 2 b; gone 1 2 b", "move 1 0 a 2 b; gone 1 2 b"},
		{"two joins far from each other", "file 5 0 a; move 5 0 a 2 b; text 9 =x; move 1 0 a 2 c; move 1 2 c 0 d", "file 5 2 b; text 9 =x; move 1 0 a 0 d"},
		{"what the other rules take", "text 1 =a; text 1 =b; file 5 0 a; gone 5 0 a", "text 1 =a; text 1 =b; file 5 0 a; gone 5 0 a"},
	})
}

func TestSlim(t *testing.T) {
	wantCases(t, slimAll, []slimCase{
		{"nothing", "", ""},
		{"none helps", "dir 1 0 a; file 2 1 b; text 2 =x; move 3 0 c 1 d; gone 4 0 e", "dir 1 0 a; file 2 1 b; text 2 =x; move 3 0 c 1 d; gone 4 0 e"},
		{"the document's example", "dir 1 0 a; file 5 1 b; text 5 =one; text 5 =two; file 9 0 tmp; gone 9 0 tmp", "dir 1 0 a; file 5 1 b; text 5 =two"},
		{"each rule once", "text 1 =a; text 1 =b; file 5 0 a; gone 5 0 a; move 2 0 x 0 y; move 2 0 y 0 z", "text 1 =b; move 2 0 x 0 z"},
		{"a text makes room for a move", "move 1 0 a 2 b; text 3 =x; move 1 2 b 3 c; text 3 =y", "move 1 0 a 3 c; text 3 =y"},
		{"a pair makes room for a move", "move 1 0 a 2 b; file 5 0 a; gone 5 0 a; move 1 2 b 0 c", "move 1 0 a 0 c"},
		{"a pair makes room for a move back", "move 1 0 a 2 b; file 5 0 a; gone 5 0 a; move 1 2 b 0 a", ""},
		{"a move makes room for a pair", "dir 5 0 a; file 6 5 b; move 6 5 b 0 c; gone 5 0 a", "file 6 0 c"},
		{"a move back makes room for a pair", "dir 5 0 a; move 6 0 b 5 c; move 6 5 c 0 b; gone 5 0 a", ""},
		{"a move makes room for a pair, and that for a move", "move 7 0 x 0 y; dir 5 0 a; file 6 5 b; move 6 5 b 0 c; gone 5 0 a; move 7 0 y 0 z", "move 7 0 x 0 y; file 6 0 c; move 7 0 y 0 z"},
		{"a move back makes room for a pair, and that for a move", "move 7 0 x 0 y; dir 5 0 a; move 6 0 b 5 c; move 6 5 c 0 b; gone 5 0 a; move 7 0 y 0 z", "move 7 0 x 0 z"},
		{"rooms within rooms", "dir 1 0 a; move 7 0 x 1 y; dir 5 0 b; move 6 0 c 5 c; move 6 5 c 0 c; gone 5 0 b; move 7 1 y 0 x; gone 1 0 a", ""},
		{"something leans on what goes again", "dir 5 0 a; move 6 0 b 5 c; text 6 =x; move 6 5 c 0 d; gone 5 0 a", "dir 5 0 a; move 6 0 b 5 c; text 6 =x; move 6 5 c 0 d; gone 5 0 a"},
		{"a void text no longer stands between", "dir 5 0 a; move 6 0 b 5 c; text 6 =x; move 6 5 c 0 d; gone 5 0 a; text 6 =y", "move 6 0 b 0 d; text 6 =y"},
		{"a text, a move and the going", "text 1 =a; move 1 0 x 0 y; gone 1 0 y", "move 1 0 x 0 y; gone 1 0 y"},
	})
}

// slimOfMost is as long as a list may be, and no rule helps.
func slimOfMost() []op {
	var list []op
	for i := range impl.ActMost {
		list = append(list, op{Kind: impl.OpDir, Id: 1 + i%31, Dir: i % 32, Name: nameAt(i)})
	}
	return list
}

func TestSlimOfMost(t *testing.T) {
	most := slimOfMost()
	for _, rule := range slimRules {
		if got := wantSlim(t, rule, most); !impl.OpSame(got, most) {
			t.Errorf("%s of %d: %q", rule.name, len(most), linesOf(got))
		}
		for _, more := range [][]op{append(slices.Clone(most), most[0]), slices.Repeat(most, 2), slices.Repeat(most, 2000), make([]op, 100000)} {
			if got := rule.slim(more); len(got) != 0 {
				t.Errorf("%s of %d: %d are left", rule.name, len(more), len(got))
			}
		}
	}
}

// A list of one too many has no answer, also where a rule would make it short enough.
func TestSlimOfMostThatGetShort(t *testing.T) {
	text := opsOf(t, "text 2 =x")
	moves := opsOf(t, "move 1 0 a 2 b", "move 1 2 b 0 a")
	pairs := opsOf(t, "file 5 0 a", "gone 5 0 a")
	cases := []struct {
		rule slimRule
		list []op
		left int
	}{
		{slimTexts, slices.Repeat(text, impl.ActMost), 1},
		{slimPairs, slices.Repeat(pairs, impl.ActMost/2), 0},
		{slimMoves, slices.Repeat(moves, impl.ActMost/2), 0},
		{slimAll, slices.Repeat(text, impl.ActMost), 1},
		{slimAll, slices.Repeat(pairs, impl.ActMost/2), 0},
		{slimAll, slices.Repeat(moves, impl.ActMost/2), 0},
	}
	for _, c := range cases {
		if got := wantSlim(t, c.rule, c.list); len(got) != c.left {
			t.Errorf("%s of most: %q", c.rule.name, linesOf(got))
		}
		if got := c.rule.slim(append(slices.Clone(c.list), text...)); len(got) != 0 {
			t.Errorf("%s of one more: %q", c.rule.name, linesOf(got))
		}
	}
}

func TestSlimOfNone(t *testing.T) {
	roomy := slimOfMost()[:0]
	for _, rule := range slimRules {
		for _, list := range [][]op{nil, {}, roomy} {
			if got := rule.slim(list); len(got) != 0 {
				t.Errorf("%s of none: %q", rule.name, linesOf(got))
			}
		}
	}
}

func TestSlimOfWhatIsNotOk(t *testing.T) {
	lists := [][]op{
		nil,
		opsOf(t, "dir 1 0 a", "file 2 1 b"),
		opsOf(t, "text 2 =x", "text 2 =y", "file 5 0 a", "gone 5 0 a", "move 1 0 a 2 b", "move 1 2 b 0 a"),
		slimOfMost()[1:],
	}
	wrongs := append(slices.Clone(opsNotOk),
		op{Kind: impl.OpMove, Id: 1, Dir: math.MaxInt, Name: "a", Dir2: math.MinInt, Name2: "b"},
		op{Kind: impl.OpText, Id: 1, Text: "\xff"},
		op{Kind: impl.OpText, Id: 40, Text: "x"},
		op{Kind: impl.OpGone, Id: 5, Dir: 99, Name: "a"},
	)
	for _, rule := range slimRules {
		for _, wrong := range wrongs {
			for _, list := range lists {
				for _, at := range []int{0, len(list) / 2, len(list)} {
					bad := slices.Insert(slices.Clone(list), at, wrong)
					was := slices.Clone(bad)
					if got := rule.slim(bad); len(got) != 0 || !slices.Equal(bad, was) {
						t.Errorf("%s with %v at %d of %d: %q", rule.name, wrong, at, len(bad), linesOf(got))
					}
				}
			}
		}
	}
}

// What is not ok is asked for ahead of what a rule would take out.
func TestSlimWhatIsNotOkWouldBeOut(t *testing.T) {
	for _, rule := range slimRules {
		for _, list := range [][]op{
			{{Kind: impl.OpText, Id: 1, Text: "A"}, {Kind: impl.OpText, Id: 1, Text: "a"}},
			{{Kind: impl.OpFile, Id: 5, Name: "A"}, {Kind: impl.OpGone, Id: 5, Name: "a"}, {Kind: impl.OpText, Id: 1}},
			{{Kind: impl.OpFile, Id: 5, Name: "A"}, {Kind: impl.OpMove, Id: 5, Name: "A", Name2: "b"}},
		} {
			if got := rule.slim(list); len(got) != 0 {
				t.Errorf("%s of %v: %v", rule.name, list, got)
			}
		}
	}
}

func TestSlimAnswersAreNewMemory(t *testing.T) {
	lists := [][]op{
		nil,
		opsOf(t, "text 2 =x"),
		opsOf(t, "dir 1 0 a", "file 2 1 b", "text 2 =x"),
		opsOf(t, "text 2 =x", "text 2 =y"),
		opsOf(t, "file 5 0 a", "gone 5 0 a"),
		opsOf(t, "file 5 0 a", "move 5 0 a 0 b"),
		opsOf(t, "move 5 0 a 0 b", "move 5 0 b 0 a"),
		opsOf(t, "text 2 =x", "file 5 0 a", "gone 5 0 a", "move 1 0 a 2 b", "text 2 =y", "move 1 2 b 0 c"),
		slimOfMost(),
		append(slimOfMost(), op{}),
	}
	kept := op{Kind: 77, Name: "kept"}
	for _, rule := range slimRules {
		for _, list := range lists {
			room := append(slices.Clone(list), kept, kept, kept)
			was := slices.Clone(room)
			got := rule.slim(room[:len(list)])
			fill(got, op{Kind: -1, Name: "bad"})
			if !slices.Equal(room, was) {
				t.Errorf("%s of %q: the argument, or what is behind its end, is another one", rule.name, linesOf(list))
			}
		}
	}
}

// slimWords is little, so that all short lists of it can be gone through.
var slimWords = []string{
	"dir 1 0 a", "file 2 1 b", "file 2 0 b", "dir 1 2 a",
	"gone 1 0 a", "gone 2 1 b", "gone 2 0 b", "gone 1 1 a",
	"move 2 1 b 0 b", "move 2 0 b 1 b", "move 1 0 a 0 c", "move 1 0 c 0 a",
	"text 2 =x", "text 1 =y",
}

func TestSlimAllShortLists(t *testing.T) {
	words := opsOf(t, slimWords...)
	for length := range 5 {
		many := 1
		for range length {
			many *= len(words)
		}
		for n := range many {
			var list []op
			for i := n; len(list) < length; i /= len(words) {
				list = append(list, words[i%len(words)])
			}
			for _, rule := range slimRules {
				wantSlim(t, rule, list)
			}
		}
	}
}

// Lists that mostly can not be done of any tree are answered, too.
func TestSlimDrawnListsOfFewWords(t *testing.T) {
	words := opsOf(t, slimWords...)
	dice := actDice(4)
	for range 1000 {
		var list []op
		for range dice.below(impl.ActMost + 1) {
			list = append(list, words[dice.below(len(words))])
		}
		for _, rule := range slimRules {
			wantSlim(t, rule, list)
		}
	}
}

func TestSlimDoesTheSame(t *testing.T) {
	dice := slimDice{actDice: 5}
	helped := map[string]int{}
	const plays = 1500
	for play := range plays {
		x := impl.TreeOpen()
		if play%4 == 0 {
			x.Objs[0].Ver = impl.TreeVer - 20
		}
		_, x = dice.list(x, dice.below(20))
		list, _ := dice.list(x, dice.below(impl.ActMost+1))
		for _, rule := range slimRules {
			if left := wantSameDone(t, x, rule, list); len(left) < len(list) {
				helped[rule.name]++
			}
		}
		once := impl.SlimMoves(impl.SlimPairs(impl.SlimTexts(list)))
		if left := wantSameDone(t, x, slimAll, list); len(left) < len(once) {
			helped["again"]++
		}
		wantNoRuleHelps(t, impl.Slim(list))
	}
	for _, name := range []string{"SlimTexts", "SlimPairs", "SlimMoves", "Slim", "again"} {
		if helped[name] < plays/50 || name != "Slim" && helped[name] == plays {
			t.Errorf("%s made %d of %d lists shorter", name, helped[name], plays)
		}
	}
}

// wantNoRuleHelps asks that what Slim left can not be made shorter by any.
func wantNoRuleHelps(t *testing.T, left []op) {
	t.Helper()
	for _, rule := range slimRules {
		if got := rule.slim(left); !impl.OpSame(got, left) {
			t.Errorf("%s makes %q shorter once more: %q", rule.name, linesOf(left), linesOf(got))
		}
	}
}

// What was there ahead of the list goes and moves, but was not made in it.
func TestSlimOfWhatWasThere(t *testing.T) {
	for _, lines := range []string{
		"move 2 9 b 31 c; text 2 =x; gone 2 31 c; file 8 9 b",
		"move 2 9 b 0 b; move 2 0 b 9 b; text 2 =x",
		"move 31 0 e 9 e; move 1 5 b 31 b; move 31 9 e 0 e",
		"move 1 5 b 31 b; gone 5 9 d; move 1 31 b 9 d",
		"dir 8 0 x; move 9 0 a 8 a; move 9 8 a 0 a; gone 8 0 x",
		"dir 8 0 x; move 9 0 a 8 a; text 1 =y; move 9 8 a 0 a; gone 8 0 x",
		"move 9 0 a 31 a; file 8 0 a; text 8 =z; gone 8 0 a; move 9 31 a 0 a",
		"move 2 9 b 9 c; move 5 9 d 9 b; move 2 9 c 9 d",
	} {
		for _, rule := range slimRules {
			wantSameDone(t, turnedTree(), rule, opsOf(t, splitLines(lines)...))
		}
	}
}

// Fewer turns are made, so that a tree whose Vers end bears the shorter list where it bears the long one.
func TestSlimWhereTheVersEnd(t *testing.T) {
	list := opsOf(t, "file 8 0 x", "text 2 =a", "move 8 0 x 9 x", "text 2 =b", "gone 8 9 x", "text 2 =c")
	x := turnedTree()
	x.Objs[2].Ver, x.Objs[9].Ver, x.Objs[0].Ver = impl.TreeVer-3, impl.TreeVer-2, impl.TreeVer-2
	for _, rule := range slimRules {
		wantSameDone(t, x, rule, list)
	}
	got, _, _ := impl.ActAll(x, impl.Slim(list))
	if got.Objs[2].Ver != impl.TreeVer-2 || got.Objs[9].Ver != impl.TreeVer-2 || got.Objs[0].Ver != impl.TreeVer-2 || !impl.ActFresh(got, 8) {
		t.Errorf("the shorter list turns more than one: %v", got)
	}
}
