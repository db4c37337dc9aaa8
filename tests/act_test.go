package tests

import (
	"math"
	"reflect"
	"slices"
	"testing"

	"loop.example/shieling/impl"
)

func TestActCodesAreAsTheDocumentNumbersThem(t *testing.T) {
	codes := []int{impl.ActFine, impl.ActDirs, impl.ActNone, impl.ActThere, impl.ActFull, impl.ActRing, impl.ActKind, impl.ActUsed, impl.ActForm}
	if !slices.Equal(codes, []int{0, 1, 2, 3, 4, 5, 6, 7, 8}) || impl.ActMost != 60 {
		t.Error(codes, impl.ActMost)
	}
}

// finePlays is what can be done of turnedTree, and what is another then.
var finePlays = []struct {
	line   string
	change func(x *impl.Tree)
}{
	{"file 8 31 x", func(x *impl.Tree) {
		x.Objs[8] = impl.Obj{Kind: impl.TreeFile, Ver: 1}
		x.Objs[31].Kids, x.Objs[31].Ver = []ent{{Name: "x", Id: 8}}, 318
	}},
	{"file 30 0 b", func(x *impl.Tree) {
		x.Objs[30] = impl.Obj{Kind: impl.TreeFile, Ver: 1}
		x.Objs[0].Kids, x.Objs[0].Ver = []ent{{Name: "a", Id: 9}, {Name: "b", Id: 30}, {Name: "e", Id: 31}}, 101
	}},
	{"dir 3 9 a", func(x *impl.Tree) {
		x.Objs[3] = impl.Obj{Kind: impl.TreeDir, Ver: 1}
		x.Objs[9].Kids, x.Objs[9].Ver = []ent{{Name: "a", Id: 3}, {Name: "b", Id: 2}, {Name: "d", Id: 5}}, 164
	}},
	{"dir 3 9 zzzz", func(x *impl.Tree) {
		x.Objs[3] = impl.Obj{Kind: impl.TreeDir, Ver: 1}
		x.Objs[9].Kids, x.Objs[9].Ver = []ent{{Name: "b", Id: 2}, {Name: "d", Id: 5}, {Name: "zzzz", Id: 3}}, 164
	}},
	{"gone 2 9 b", func(x *impl.Tree) {
		x.Objs[2] = impl.Obj{Ver: 115}
		x.Objs[9].Kids, x.Objs[9].Ver = []ent{{Name: "d", Id: 5}}, 164
	}},
	{"gone 31 0 e", func(x *impl.Tree) {
		x.Objs[31] = impl.Obj{Ver: 318}
		x.Objs[0].Kids, x.Objs[0].Ver = []ent{{Name: "a", Id: 9}}, 101
	}},
	{"gone 1 5 b", func(x *impl.Tree) {
		x.Objs[1] = impl.Obj{Ver: 108}
		x.Objs[5].Kids, x.Objs[5].Ver = nil, 136
	}},
	{"move 2 9 b 31 zz", func(x *impl.Tree) {
		x.Objs[9].Kids, x.Objs[9].Ver = []ent{{Name: "d", Id: 5}}, 164
		x.Objs[31].Kids, x.Objs[31].Ver = []ent{{Name: "zz", Id: 2}}, 318
	}},
	{"move 5 9 d 0 d", func(x *impl.Tree) {
		x.Objs[9].Kids, x.Objs[9].Ver = []ent{{Name: "b", Id: 2}}, 164
		x.Objs[0].Kids, x.Objs[0].Ver = []ent{{Name: "a", Id: 9}, {Name: "d", Id: 5}, {Name: "e", Id: 31}}, 101
	}},
	{"move 9 0 a 31 a", func(x *impl.Tree) {
		x.Objs[0].Kids, x.Objs[0].Ver = []ent{{Name: "e", Id: 31}}, 101
		x.Objs[31].Kids, x.Objs[31].Ver = []ent{{Name: "a", Id: 9}}, 318
	}},
	{"move 2 9 b 9 e", func(x *impl.Tree) {
		x.Objs[9].Kids, x.Objs[9].Ver = []ent{{Name: "d", Id: 5}, {Name: "e", Id: 2}}, 164
	}},
	{"move 5 9 d 9 a", func(x *impl.Tree) {
		x.Objs[9].Kids, x.Objs[9].Ver = []ent{{Name: "a", Id: 5}, {Name: "b", Id: 2}}, 164
	}},
	{"text 2 =new", func(x *impl.Tree) { x.Objs[2].Text, x.Objs[2].Ver = "new", 115 }},
	{"text 2 =", func(x *impl.Tree) { x.Objs[2].Text, x.Objs[2].Ver = "", 115 }},
	{"text 2 =one1", func(x *impl.Tree) { x.Objs[2].Ver = 115 }},
	{"text 1 =abcdef012345", func(x *impl.Tree) { x.Objs[1].Text, x.Objs[1].Ver = "abcdef012345", 108 }},
}

func TestActEachKindIsDone(t *testing.T) {
	for _, play := range finePlays {
		want := turnedTree()
		play.change(&want)
		o := opsOf(t, play.line)[0]
		got := wantAct(t, turnedTree(), o, impl.ActFine)
		if !impl.TreeSame(got, want) {
			t.Errorf("%q leaves %v, not %v", play.line, got, want)
		}
		wantAtHome(t, got)
		all, code, at := impl.ActAll(turnedTree(), []op{o})
		if code != impl.ActFine || at != 1 || !impl.TreeSame(all, want) {
			t.Errorf("ActAll of %q alone: %v, %d, %d", play.line, all, code, at)
		}
	}
}

// barredPlays is what can not be done of turnedTree, by the code; where two would apply, the other is told behind it.
var barredPlays = []struct {
	code  int
	lines []string
}{
	{impl.ActDirs, []string{
		"file 8 2 x",       // a file
		"dir 8 7 x",        // what was something
		"file 8 8 x",       // what is to be made
		"dir 8 30 x",       // what never was
		"file 2 1 x",       // used
		"gone 2 1 b",       // none
		"gone 2 2 b",       // none
		"gone 9 7 a",       // none, full
		"gone 8 8 x",       // none
		"move 2 1 b 31 x",  // the first is none
		"move 2 9 b 1 x",   // the second is none
		"move 2 9 b 2 x",   // the second is the file itself
		"move 2 9 b 7 x",   // the second was once
		"move 2 30 b 29 x", // neither is one
		"move 9 1 b 0 e",   // there
		"move 9 2 a 5 x",   // ring
		"move 2 9 x 1 x",   // none
	}},
	{impl.ActThere, []string{
		"file 8 0 a", "file 8 9 b", "dir 8 5 b", "dir 8 0 e",
		"file 2 9 b",  // used
		"dir 7 0 a",   // used
		"file 9 0 e",  // used
		"dir 5 9 d",   // used
		"dir 9 5 b",   // used, and under itself
		"file 31 0 e", // used
		"move 2 9 b 9 d", "move 2 9 b 0 a", "move 1 5 b 9 b", "move 31 0 e 5 b",
		"move 2 9 b 9 b",  // where it is
		"move 31 0 e 0 e", // where it is
		"move 9 0 a 9 b",  // ring: itself
		"move 9 0 a 9 d",  // ring: itself
		"move 9 0 a 5 b",  // ring: under it
		"move 5 9 d 5 b",  // ring: itself
	}},
	{impl.ActUsed, []string{
		"file 2 0 x", "dir 2 0 x", "file 9 31 x", "dir 31 0 x", "file 7 0 x", "dir 7 9 x", "file 31 31 x", "dir 9 9 x", "dir 9 5 x",
	}},
	{impl.ActNone, []string{
		"gone 2 9 x", "gone 2 0 b", "gone 1 9 b", "gone 2 5 b", "gone 7 9 b", "gone 8 0 a", "gone 31 31 e", "gone 2 9 bb",
		"gone 5 9 b",      // full
		"gone 9 0 e",      // full
		"gone 9 9 b",      // full, in itself
		"move 2 9 x 31 x", // no such name
		"move 2 5 b 31 x", // another's name
		"move 1 9 b 31 x", // another's name
		"move 8 0 f 31 x", // what never was
		"move 7 0 f 31 x", // what was once
		"move 2 9 x 0 a",  // there
		"move 9 0 e 5 x",  // ring
		"move 9 0 e 9 b",  // there, ring
		"move 9 9 b 9 x",  // ring
	}},
	{impl.ActFull, []string{"gone 9 0 a", "gone 5 9 d"}},
	{impl.ActRing, []string{"move 9 0 a 9 a", "move 9 0 a 9 x", "move 9 0 a 5 x", "move 5 9 d 5 d", "move 31 0 e 31 e"}},
	{impl.ActKind, []string{"text 9 =x", "text 5 =", "text 31 =x", "text 7 =x", "text 8 =", "text 30 =x"}},
}

func TestActEachCode(t *testing.T) {
	for _, play := range barredPlays {
		for _, o := range opsOf(t, play.lines...) {
			wantAct(t, turnedTree(), o, play.code)
			got, code, at := impl.ActAll(turnedTree(), []op{o})
			if code != play.code || at != 0 || !impl.TreeSame(got, turnedTree()) {
				t.Errorf("ActAll of %q alone: %v, %d, %d", lineText(o), got, code, at)
			}
		}
	}
}

func TestActVersOfWhatCanBeDone(t *testing.T) {
	for _, play := range finePlays {
		o := opsOf(t, play.line)[0]
		done, _ := impl.ActDo(turnedTree(), o)
		for id := range impl.TreeMax {
			last := turnedTree()
			last.Objs[id].Ver = impl.TreeVer
			if !slices.Contains(impl.OpIds(o), id) {
				wantAct(t, last, o, impl.ActFine)
				continue
			}
			wantAct(t, last, o, impl.ActForm)
			last.Objs[id].Ver = impl.TreeVer - 1
			if last.Objs[id].Kind == impl.TreeNone {
				wantAct(t, last, o, impl.ActUsed)
				continue
			}
			got := wantAct(t, last, o, impl.ActFine)
			turns := done.Objs[id].Ver - turnedTree().Objs[id].Ver
			if got.Objs[id].Ver != impl.TreeVer-1+turns || turns > 1 {
				t.Errorf("%q turns %d: %d times, to %d", play.line, id, turns, got.Objs[id].Ver)
			}
		}
	}
}

func TestActFormIsAheadOfAllCodes(t *testing.T) {
	for _, play := range barredPlays {
		for _, o := range opsOf(t, play.lines...) {
			for id := range impl.TreeMax {
				last := turnedTree()
				last.Objs[id].Ver = impl.TreeVer
				want := play.code
				if slices.Contains(impl.OpIds(o), id) {
					want = impl.ActForm
				}
				wantAct(t, last, o, want)
			}
		}
	}
}

func TestActMoveTurnsNotWhatIsMoved(t *testing.T) {
	for _, line := range []string{"move 2 9 b 31 zz", "move 5 9 d 0 d", "move 9 0 a 31 a", "move 2 9 b 9 e"} {
		o := opsOf(t, line)[0]
		got := wantAct(t, turnedTree(), o, impl.ActFine)
		if got.Objs[o.Id].Ver != turnedTree().Objs[o.Id].Ver {
			t.Errorf("%q turns what is moved", line)
		}
	}
}

func TestActMoveIntoWhatIsFarUnder(t *testing.T) {
	x := chainTree()
	for dir := range impl.TreeMax {
		want := impl.ActRing
		switch dir {
		case 0, 1, 2, 3:
			want = impl.ActFine
		}
		wantAct(t, x, op{Kind: impl.OpMove, Id: 4, Dir: 3, Name: "x", Dir2: dir, Name2: "y"}, want)
	}
}

func TestActNumberThatWasSomebodys(t *testing.T) {
	x, code, at := impl.ActAll(impl.TreeOpen(), opsOf(t, "file 4 0 a", "dir 6 0 b", "gone 4 0 a", "gone 6 0 b"))
	if code != impl.ActFine || at != 4 || x.Objs[4].Ver != 2 || x.Objs[6].Ver != 2 || x.Objs[0].Ver != 5 {
		t.Fatal(x, code, at)
	}
	for _, line := range []string{"file 4 0 a", "dir 4 0 a", "file 6 0 c", "dir 6 0 b"} {
		wantAct(t, x, opsOf(t, line)[0], impl.ActUsed)
	}
	for _, id := range []int{4, 6} {
		if impl.ActFresh(x, id) || x.Objs[id].Kind != impl.TreeNone {
			t.Errorf("%d is fresh", id)
		}
	}
	wantAct(t, x, opsOf(t, "file 5 0 a")[0], impl.ActFine)
}

func TestActNameThatIsFreeAgain(t *testing.T) {
	plays := [][]string{
		{"file 1 0 a", "gone 1 0 a", "file 2 0 a"},
		{"file 1 0 a", "gone 1 0 a", "dir 2 0 a"},
		{"dir 1 0 a", "file 2 0 b", "move 2 0 b 1 b", "file 3 0 b"},
		{"file 1 0 a", "move 1 0 a 0 b", "file 2 0 a"},
		{"file 1 0 a", "move 1 0 a 0 b", "move 1 0 b 0 a"},
		{"file 1 0 a", "file 2 0 b", "move 1 0 a 0 c", "move 2 0 b 0 a", "move 1 0 c 0 b"},
		{"dir 1 0 a", "file 2 1 a", "move 2 1 a 0 b", "gone 1 0 a", "move 2 0 b 0 a"},
	}
	for _, lines := range plays {
		x, code, at := impl.ActAll(impl.TreeOpen(), opsOf(t, lines...))
		if code != impl.ActFine || at != len(lines) {
			t.Errorf("%q: %d at %d", lines, code, at)
			continue
		}
		wantAtHome(t, x)
	}
}

func TestActDirectoryThatIsToGo(t *testing.T) {
	x := turnedTree()
	gone := opsOf(t, "gone 5 9 d")[0]
	wantAct(t, x, gone, impl.ActFull)
	for _, line := range []string{"gone 1 5 b", "move 1 5 b 9 x"} {
		empty := wantAct(t, x, opsOf(t, line)[0], impl.ActFine)
		got := wantAct(t, empty, gone, impl.ActFine)
		if got.Objs[5].Kind != impl.TreeNone || impl.TreeFind(got, 9, "d") != -1 {
			t.Errorf("behind %q: %v", line, got)
		}
		wantAct(t, got, gone, impl.ActNone)
	}
}

func TestActTreesThatAreNotOk(t *testing.T) {
	for why, x := range treesNotOk() {
		for _, o := range plainOps {
			wantNone(t, why, x, o.op)
		}
		wantNone(t, why, x, op{})
		wantNone(t, why, x, op{Kind: impl.OpFile, Id: 99, Dir: -1, Name: "A"})
		for _, id := range oddNumbers {
			if impl.ActFresh(x, id) {
				t.Errorf("%s: %d is fresh", why, id)
			}
		}
	}
}

var opsNotOk = []op{
	{},
	{Kind: 6, Id: 1},
	{Kind: -1, Id: 8, Dir: 0, Name: "x"},
	{Kind: impl.OpFile, Id: 0, Dir: 0, Name: "x"},
	{Kind: impl.OpFile, Id: 32, Dir: 0, Name: "x"},
	{Kind: impl.OpDir, Id: -1, Dir: 0, Name: "x"},
	{Kind: impl.OpDir, Id: 8, Dir: 32, Name: "x"},
	{Kind: impl.OpDir, Id: 8, Dir: -1, Name: "x"},
	{Kind: impl.OpFile, Id: 8, Dir: 0, Name: ""},
	{Kind: impl.OpFile, Id: 8, Dir: 0, Name: "abcde"},
	{Kind: impl.OpFile, Id: 8, Dir: 0, Name: "x", Text: "x"},
	{Kind: impl.OpGone, Id: 2, Dir: 9, Name: "b", Dir2: 1},
	{Kind: impl.OpGone, Id: math.MaxInt, Dir: math.MinInt, Name: "b"},
	{Kind: impl.OpMove, Id: 2, Dir: 9, Name: "b", Dir2: 32, Name2: "b"},
	{Kind: impl.OpMove, Id: 2, Dir: 9, Name: "b", Dir2: 0, Name2: "B"},
	{Kind: impl.OpText, Id: 2, Text: "abcdef0123456"},
	{Kind: impl.OpText, Id: 2, Text: "A"},
	{Kind: impl.OpText, Id: 2, Dir: 9, Name: "b", Text: "x"},
}

func TestActWhatIsNotOk(t *testing.T) {
	for _, o := range opsNotOk {
		wantAct(t, turnedTree(), o, impl.ActForm)
		fine := opsOf(t, "text 2 =x")[0]
		for _, list := range [][]op{{o}, {o, fine}, {fine, o}, {fine, o, fine}} {
			got, code, at := impl.ActAll(turnedTree(), list)
			if len(got.Objs) != 0 || code != impl.ActForm || at != 0 {
				t.Errorf("%v in a list: %v, %d, %d", o, got, code, at)
			}
		}
	}
}

func TestActAllOfNone(t *testing.T) {
	for _, list := range [][]op{nil, {}} {
		got, code, at := impl.ActAll(turnedTree(), list)
		if code != impl.ActFine || at != 0 || !impl.TreeSame(got, turnedTree()) {
			t.Errorf("%v, %d, %d", got, code, at)
		}
	}
}

func TestActAllOfMost(t *testing.T) {
	var list []op
	for i := range impl.ActMost + 1 {
		list = append(list, op{Kind: impl.OpText, Id: 2, Text: nameAt(i)})
	}
	got, code, at := impl.ActAll(turnedTree(), list[:impl.ActMost])
	if code != impl.ActFine || at != impl.ActMost || got.Objs[2].Text != nameAt(impl.ActMost-1) || got.Objs[2].Ver != 114+impl.ActMost {
		t.Errorf("of most: %v, %d, %d", got, code, at)
	}
	for _, many := range [][]op{list, make([]op, 100000), slices.Repeat(list, 1000)} {
		got, code, at = impl.ActAll(turnedTree(), many)
		if len(got.Objs) != 0 || code != impl.ActForm || at != 0 {
			t.Errorf("of %d: %v, %d, %d", len(many), got, code, at)
		}
	}
	barred := slices.Repeat(opsOf(t, "gone 9 0 a"), impl.ActMost+1)
	if got, code, at = impl.ActAll(turnedTree(), barred); len(got.Objs) != 0 || code != impl.ActForm || at != 0 {
		t.Errorf("of one more that can not be done: %v, %d, %d", got, code, at)
	}
	if got, code, at = impl.ActAll(turnedTree(), barred[1:]); !impl.TreeSame(got, turnedTree()) || code != impl.ActFull || at != 0 {
		t.Errorf("of most that can not be done: %v, %d, %d", got, code, at)
	}
}

func TestActAllStopsAtTheFirstThatCanNotBeDone(t *testing.T) {
	fine := []string{"dir 8 0 x", "file 10 8 b", "text 10 =x", "move 2 9 b 8 c", "gone 10 8 b"}
	for _, play := range barredPlays {
		if play.code != impl.ActFull && play.code != impl.ActRing {
			continue
		}
		for _, line := range play.lines {
			for _, at := range []int{0, 1, 2, len(fine)} {
				lines := slices.Insert(slices.Clone(fine), at, line)
				lines = append(lines, "gone 30 0 zzz")
				wantStop(t, opsOf(t, lines...), play.code, at)
			}
		}
	}
	wantStop(t, opsOf(t, "gone 2 9 b", "file 2 9 b"), impl.ActUsed, 1)
	wantStop(t, opsOf(t, "gone 2 9 b", "text 2 =x"), impl.ActKind, 1)
	wantStop(t, opsOf(t, "gone 31 0 e", "file 8 31 x"), impl.ActDirs, 1)
	wantStop(t, opsOf(t, "move 2 9 b 0 b", "gone 2 9 b"), impl.ActNone, 1)
	wantStop(t, opsOf(t, "dir 8 0 x", "text 2 =x", "file 10 0 x"), impl.ActThere, 2)
}

// wantStop asks of turnedTree: the tree as it was at first, the code and the place.
func wantStop(t *testing.T, list []op, code int, at int) {
	t.Helper()
	x := turnedTree()
	was := slices.Clone(list)
	got, c, place := impl.ActAll(x, list)
	if c != code || place != at {
		t.Errorf("%v: %d at %d, not %d at %d", list, c, place, code, at)
	}
	if !impl.TreeSame(got, turnedTree()) || !reflect.DeepEqual(x, turnedTree()) || !impl.OpSame(list, was) {
		t.Errorf("%v: something is another one", list)
	}
}

func TestActAllAsksForFormAheadOfAll(t *testing.T) {
	for _, o := range opsNotOk {
		list := append(opsOf(t, "text 2 =x", "gone 9 0 a"), o)
		if got, code, at := impl.ActAll(turnedTree(), list); len(got.Objs) != 0 || code != impl.ActForm || at != 0 {
			t.Errorf("%v: %v, %d, %d", o, got, code, at)
		}
	}
}

func TestActAllWhereTheVersEnd(t *testing.T) {
	list := slices.Repeat(opsOf(t, "text 2 =x"), impl.ActMost)
	x := turnedTree()
	x.Objs[2].Ver = impl.TreeVer - impl.ActMost
	got, code, at := impl.ActAll(x, list)
	if code != impl.ActFine || at != impl.ActMost || got.Objs[2].Ver != impl.TreeVer {
		t.Errorf("%d, %d, %v", code, at, got.Objs[2])
	}
	x.Objs[2].Ver++
	got, code, at = impl.ActAll(x, list)
	if code != impl.ActForm || at != impl.ActMost-1 || !impl.TreeSame(got, x) {
		t.Errorf("%d, %d, %v", code, at, got.Objs[2])
	}
	x.Objs[0].Ver = impl.TreeVer
	got, code, at = impl.ActAll(x, opsOf(t, "text 2 =x", "file 8 0 x", "gone 9 9 a"))
	if code != impl.ActForm || at != 1 || !impl.TreeSame(got, x) {
		t.Errorf("%d, %d", code, at)
	}
}

func TestActFresh(t *testing.T) {
	for _, x := range []impl.Tree{impl.TreeOpen(), plainTree(), turnedTree(), chainTree()} {
		for id := -40; id < 80; id++ {
			want := 0 < id && id < impl.TreeMax && x.Objs[id].Kind == impl.TreeNone && x.Objs[id].Ver == 0
			if got := impl.ActFresh(x, id); got != want {
				t.Errorf("ActFresh(%d) = %v", id, got)
			}
		}
		for _, id := range []int{math.MinInt, math.MaxInt, 1 << 32} {
			if impl.ActFresh(x, id) {
				t.Errorf("%d is fresh", id)
			}
		}
	}
	x := plainTree()
	if !impl.ActFresh(x, 8) || !impl.ActFresh(x, 30) || impl.ActFresh(x, 7) || impl.ActFresh(x, 2) || impl.ActFresh(x, 9) || impl.ActFresh(x, 0) {
		t.Error("of the plain tree")
	}
	for _, ver := range []int{1, impl.TreeVer} {
		x.Objs[8].Ver = ver
		if impl.ActFresh(x, 8) {
			t.Errorf("nothing with the Ver %d is fresh", ver)
		}
	}
}

func TestActAnswersAreNewMemory(t *testing.T) {
	list := opsOf(t, "dir 8 0 x", "move 2 9 b 8 c", "gone 31 0 e", "file 10 8 d", "gone 1 5 b")
	barred := append(slices.Clone(list), opsOf(t, "gone 9 0 a")...)
	answers := map[string]func(x impl.Tree) impl.Tree{
		"done":         func(x impl.Tree) impl.Tree { y, _ := impl.ActDo(x, list[0]); return y },
		"moved":        func(x impl.Tree) impl.Tree { y, _ := impl.ActDo(x, opsOf(t, "move 2 9 b 31 c")[0]); return y },
		"barred":       func(x impl.Tree) impl.Tree { y, _ := impl.ActDo(x, barred[5]); return y },
		"not ok":       func(x impl.Tree) impl.Tree { y, _ := impl.ActDo(x, op{}); return y },
		"none done":    func(x impl.Tree) impl.Tree { y, _, _ := impl.ActAll(x, nil); return y },
		"all done":     func(x impl.Tree) impl.Tree { y, _, _ := impl.ActAll(x, list); return y },
		"not all done": func(x impl.Tree) impl.Tree { y, _, _ := impl.ActAll(x, barred); return y },
	}
	for why, answer := range answers {
		x := roomyTree()
		was := roomyTree()
		y := answer(x)
		wantListsApart(t, why, y)
		scribble(y)
		if !reflect.DeepEqual(withRoom(x), withRoom(was)) {
			t.Errorf("%s: the argument, or what is behind its end, is another one", why)
		}
	}
}

// roomyTree has spare room behind all lists, with something in it.
func roomyTree() impl.Tree {
	x := turnedTree()
	for id := range x.Objs {
		kids := append(slices.Clone(x.Objs[id].Kids), ent{Name: "kept", Id: 77}, ent{Name: "kept", Id: 78})
		x.Objs[id].Kids = kids[:len(kids)-2]
	}
	objs := append(slices.Clone(x.Objs), file("kept"))
	x.Objs = objs[:impl.TreeMax]
	return x
}

// withRoom is a tree's objects and, of each, its names with the two behind their end.
func withRoom(x impl.Tree) []impl.Obj {
	all := slices.Clone(x.Objs[:impl.TreeMax+1])
	for id := range impl.TreeMax {
		all[id].Kids = slices.Clone(all[id].Kids[:len(all[id].Kids)+2])
	}
	return all
}

// wantListsApart writes into the names of each object, spare room included, and looks at all others.
func wantListsApart(t *testing.T, why string, x impl.Tree) {
	t.Helper()
	for id := range x.Objs {
		was := copyTree(x)
		kids := x.Objs[id].Kids
		fill(kids, ent{Name: "mine", Id: -id})
		for other := range x.Objs {
			if other != id && !slices.Equal(x.Objs[other].Kids, was.Objs[other].Kids) {
				t.Errorf("%s: the names of %d and %d share memory", why, id, other)
			}
		}
		copy(kids, was.Objs[id].Kids)
	}
}

func scribble(x impl.Tree) {
	for id := range x.Objs {
		fill(x.Objs[id].Kids, ent{Name: "bad", Id: -9})
	}
	fill(x.Objs, file("bad"))
}

// Nearly all that can be done of a small tree, held against the model.
func TestActAllThingsOfATree(t *testing.T) {
	numbers := []int{0, 1, 2, 5, 7, 8, 9, 30, 31}
	names := []string{"a", "b", "d", "e", "x"}
	for _, id := range numbers[1:] {
		wantAsModel(t, turnedTree(), op{Kind: impl.OpText, Id: id, Text: "x"})
		for _, dir := range numbers {
			for _, name := range names {
				for _, kind := range []int{impl.OpFile, impl.OpDir, impl.OpGone} {
					wantAsModel(t, turnedTree(), op{Kind: kind, Id: id, Dir: dir, Name: name})
				}
				for _, dir2 := range numbers {
					for _, name2 := range names {
						wantAsModel(t, turnedTree(), op{Kind: impl.OpMove, Id: id, Dir: dir, Name: name, Dir2: dir2, Name2: name2})
					}
				}
			}
		}
	}
}

func wantAsModel(t *testing.T, x impl.Tree, o op) impl.Tree {
	t.Helper()
	m := modelOf(x)
	got := wantAct(t, x, o, m.do(o))
	if !impl.TreeSame(got, m.tree()) {
		t.Fatalf("%q leaves %v, not %v", lineText(o), got, m.tree())
	}
	return got
}

// Long plays, thing by thing, held against the model; some Vers are near their end.
func TestActLongPlays(t *testing.T) {
	dice := actDice(1)
	var seen [impl.ActForm + 1]int
	for play := range 60 {
		x := impl.TreeOpen()
		if play%3 == 0 {
			x.Objs[0].Ver = impl.TreeVer - 4
		}
		for range 150 {
			o := dice.op(x)
			_, code := impl.ActDo(x, o)
			seen[code]++
			x = wantAsModel(t, x, o)
		}
		wantAtHome(t, x)
	}
	for code, many := range seen {
		if many == 0 {
			t.Errorf("no play ended with %d", code)
		}
	}
}

// A list does what its things do one by one, up to the first that can not be done.
func TestActAllIsActDoOfEach(t *testing.T) {
	dice := actDice(2)
	whole := 0
	for range 400 {
		x := impl.TreeOpen()
		for range dice.below(60) {
			x, _ = impl.ActDo(x, dice.op(x))
		}
		var list []op
		y := x
		for range dice.below(40) {
			o := dice.op(y)
			z, code := impl.ActDo(y, o)
			if code == impl.ActFine || dice.below(40) == 0 {
				list, y = append(list, o), z
			}
		}
		want, code, at := x, impl.ActFine, len(list)
		for i, o := range list {
			if want, code = impl.ActDo(want, o); code != impl.ActFine {
				want, at = x, i
				break
			}
		}
		got, c, place := impl.ActAll(x, list)
		if c != code || place != at || !impl.TreeSame(got, want) {
			t.Fatalf("%v: %d at %d, not %d at %d", list, c, place, code, at)
		}
		if code == impl.ActFine && len(list) > 5 {
			whole++
		}
	}
	if whole < 20 || whole > 380 {
		t.Errorf("%d of 400 lists were done whole", whole)
	}
}
