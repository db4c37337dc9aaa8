package tests

import (
	"math"
	"slices"
	"testing"

	"loop.example/shieling/impl"
)

func TestLogBounds(t *testing.T) {
	if impl.LogWho != 3 || impl.LogSeq != 1000 {
		t.Error("the bounds are not those of the document")
	}
}

func TestLogIds(t *testing.T) {
	for _, c := range []struct {
		list string
		want []int
	}{
		{"", nil},
		{"file 5 9 a", []int{5, 9}},
		{"dir 5 0 a", []int{0, 5}},
		{"gone 31 30 a", []int{30, 31}},
		{"move 4 2 a 30 b", []int{2, 4, 30}},
		{"move 4 30 a 2 b", []int{2, 4, 30}},
		{"move 4 0 a 0 b", []int{0, 4}},
		{"move 4 4 a 4 b", []int{4}},
		{"text 8 =a", []int{8}},
		{"text 8 =9", []int{8}},
		{"text 8 =a; text 8 =b; text 8 =c", []int{8}},
		{"text 31 =a; text 1 =b; text 16 =c", []int{1, 16, 31}},
		{"file 5 9 a; text 5 =b; move 5 9 a 9 c; gone 5 9 c", []int{5, 9}},
		{"dir 1 0 a; file 2 1 b; dir 3 0 c; move 2 1 b 3 b", []int{0, 1, 2, 3}},
		{"text 2 =x; file 8 9 c; move 1 5 b 31 b; gone 2 9 b", []int{1, 2, 5, 8, 9, 31}},
	} {
		list := opsOf(t, splitLines(c.list)...)
		was := slices.Clone(list)
		if got := impl.LogIds(list); !slices.Equal(got, c.want) {
			t.Errorf("LogIds of %q: %v, not %v", c.list, got, c.want)
		}
		if !slices.Equal(list, was) {
			t.Errorf("LogIds of %q: the list is another one", c.list)
		}
	}
	if got := impl.LogIds([]op{}); len(got) != 0 {
		t.Errorf("LogIds of the empty list: %v", got)
	}
}

// opsFarOff are not ok, by numbers that no object has.
var opsFarOff = []op{
	{Kind: impl.OpText, Id: 40, Text: "x"},
	{Kind: impl.OpText, Id: -3, Text: "x"},
	{Kind: impl.OpGone, Id: 3, Dir: math.MaxInt, Name: "a"},
	{Kind: impl.OpFile, Id: math.MinInt, Dir: 3, Name: "a"},
	{Kind: impl.OpMove, Id: 3, Dir: 4, Name: "a", Dir2: 99, Name2: "b"},
	{Kind: impl.OpMove, Id: 3, Dir: math.MinInt, Name: "a", Dir2: math.MaxInt, Name2: "b"},
}

func allNotOk() []op { return slices.Concat(opsNotOk, opsFarOff) }

func TestLogIdsOfWhatIsNotOk(t *testing.T) {
	fine := plainList(t)
	want := numbersOf(fine)
	for _, wrong := range allNotOk() {
		if got := impl.LogIds([]op{wrong, wrong}); len(got) != 0 {
			t.Errorf("LogIds of %v alone: %v", wrong, got)
		}
		for at := range len(fine) + 1 {
			list := slices.Insert(slices.Clone(fine), at, wrong)
			if got := impl.LogIds(list); !slices.Equal(got, want) {
				t.Errorf("LogIds with %v at %d: %v, not %v", wrong, at, got, want)
			}
		}
	}
}

// What is not ok counts among the first ActMost, though it names nothing.
func TestLogIdsOfTheFirstAlone(t *testing.T) {
	text := opsOf(t, "text 4 =a")
	last, more := opsOf(t, "move 7 0 a 20 b"), opsOf(t, "move 8 1 a 21 b")
	for _, filler := range [][]op{text, {{}}, {opsFarOff[0]}} {
		ahead := slices.Repeat(filler, impl.ActMost-1)
		list := slices.Concat(ahead, last, more, more)
		for _, many := range []int{impl.ActMost - 1, impl.ActMost, impl.ActMost + 1, impl.ActMost + 2} {
			want := impl.OpIds(filler[0])
			if many >= impl.ActMost {
				want = numbersOf(slices.Concat(filler, last))
			}
			if got := impl.LogIds(list[:many]); !slices.Equal(got, want) {
				t.Errorf("LogIds of %d: %v, not %v", many, got, want)
			}
		}
	}
	far := append(slices.Repeat(text, 100000), more...)
	if got := impl.LogIds(far); !slices.Equal(got, []int{4}) {
		t.Errorf("LogIds of very many: %v", got)
	}
}

func TestLogIdsOfAllNumbers(t *testing.T) {
	var list []op
	var want []int
	for id := impl.TreeMax - 1; id >= 1; id-- {
		list = append(list, op{Kind: impl.OpDir, Id: id, Dir: 0, Name: nameAt(id)})
	}
	for id := range impl.TreeMax {
		want = append(want, id)
	}
	if got := impl.LogIds(list); !slices.Equal(got, want) {
		t.Errorf("LogIds of all: %v", got)
	}
}

func TestLogMake(t *testing.T) {
	l := impl.LogMake(turnedTree(), 1, 3, plainList(t))
	if !equalLogs(l, plainLog(t)) {
		t.Errorf("%v, not %v", l, plainLog(t))
	}
	if !impl.LogOk(l) {
		t.Error("not ok")
	}
}

// What is to be made has a Ver, too: 0 if the number was nobody's, another if it was somebody's.
func TestLogMakeOfWhatIsToBeMade(t *testing.T) {
	x := turnedTree()
	for id, ver := range map[int]int{8: 0, 7: 4, 2: 114} {
		x.Objs[7].Ver = 4
		l := wantLog(t, x, owner{0, 1}, []op{{Kind: impl.OpFile, Id: id, Dir: 0, Name: "x"}})
		if want := []base{{Id: 0, Ver: 100}, {Id: id, Ver: ver}}; !slices.Equal(l.Bases, want) {
			t.Errorf("the log of a new %d: %v", id, l.Bases)
		}
	}
	made, code := impl.ActDo(x, op{Kind: impl.OpFile, Id: 8, Dir: 31, Name: "x"})
	if code != impl.ActFine {
		t.Fatal(code)
	}
	l := impl.LogMake(x, 0, 1, opsOf(t, "dir 8 0 q"))
	wantFits(t, made, l, false, 8)
}

// Bases are as in the tree ahead of the list, also where the list turns them, or can not be done.
func TestLogMakeDoesNothing(t *testing.T) {
	x := turnedTree()
	for _, lines := range []string{
		"text 2 =a; text 2 =b; text 2 =c",
		"file 8 0 x; text 8 =a; gone 8 0 x",
		"gone 3 4 x; text 9 =y; move 9 0 a 9 b",
		"dir 5 5 a; file 5 5 b; gone 5 5 c; move 5 5 d 5 e",
	} {
		wantLog(t, x, owner{2, 7}, opsOf(t, splitLines(lines)...))
	}
}

func TestLogOfNone(t *testing.T) {
	for _, x := range []impl.Tree{impl.TreeOpen(), turnedTree(), chainTree()} {
		for _, list := range [][]op{nil, {}} {
			l := wantLog(t, x, owner{2, 5}, list)
			if !impl.LogSame(l, impl.Log{Who: 2, Seq: 5}) {
				t.Errorf("the log of none: %v", l)
			}
			wantFits(t, impl.TreeOpen(), l, true, -1)
		}
	}
	wantFits(t, impl.Tree{}, impl.Log{Who: 2, Seq: 5}, false, -1)
	wantNoLog(t, "bases of none", impl.Log{Who: 2, Seq: 5, Bases: []base{{}}})
	wantNoLog(t, "nothing", impl.Log{})
}

func TestLogOfMost(t *testing.T) {
	most := slimOfMost()
	l := wantLog(t, turnedTree(), owner{1, 1}, most)
	if len(l.List) != impl.ActMost || len(l.Bases) != impl.TreeMax {
		t.Errorf("the log of most: %v", l)
	}
	text := opsOf(t, "text 2 =x")
	for _, more := range [][]op{append(slices.Clone(most), most[0]), slices.Repeat(text, impl.ActMost+1), slices.Repeat(most, 1000)} {
		if got := impl.LogMake(turnedTree(), 1, 1, more); !isNoLog(got) {
			t.Errorf("the log of %d: %v", len(more), got)
		}
		long := impl.Log{Who: 1, Seq: 1, List: more}
		for _, id := range impl.LogIds(more) {
			long.Bases = append(long.Bases, base{Id: id, Ver: turnedTree().Objs[id].Ver})
		}
		wantNoLog(t, "too many", long)
	}
}

func TestLogMakeOfTreesThatAreNotOk(t *testing.T) {
	for why, x := range treesNotOk() {
		was := copyTree(x)
		for _, list := range [][]op{nil, plainList(t), slimOfMost()} {
			if got := impl.LogMake(x, 1, 3, list); !isNoLog(got) {
				t.Errorf("%s: LogMake = %v", why, got)
			}
		}
		wantFits(t, x, plainLog(t), false, -1)
		wantFits(t, x, impl.Log{Who: 0, Seq: 1}, false, -1)
		if !impl.TreeSame(x, was) {
			t.Errorf("%s: the tree is another one", why)
		}
	}
}

func TestLogListsThatAreNotOk(t *testing.T) {
	lists := [][]op{nil, plainList(t), slimOfMost()[1:]}
	for _, wrong := range allNotOk() {
		for _, list := range lists {
			fine := impl.LogMake(turnedTree(), 1, 3, list)
			for _, at := range []int{0, len(list) / 2, len(list)} {
				bad := slices.Insert(slices.Clone(list), at, wrong)
				was := slices.Clone(bad)
				if got := impl.LogMake(turnedTree(), 1, 3, bad); !isNoLog(got) || !slices.Equal(bad, was) {
					t.Errorf("LogMake with %v at %d: %v", wrong, at, got)
				}
				wantNoLog(t, "something is not ok", impl.Log{Who: 1, Seq: 3, Bases: fine.Bases, List: bad})
			}
		}
	}
}

func TestLogOwners(t *testing.T) {
	for _, o := range slices.Concat(ownersOk, ownersNotOk) {
		wantLog(t, turnedTree(), o, plainList(t))
		wantLog(t, turnedTree(), o, nil)
	}
	for _, o := range ownersOk {
		l := plainLogWith(t, func(l *impl.Log) { l.Who, l.Seq = o.who, o.seq })
		if !impl.LogOk(l) {
			t.Errorf("%v: not ok", o)
		}
		wantFits(t, turnedTree(), l, true, -1)
	}
	for _, o := range ownersNotOk {
		wantNoLog(t, "nobody's", plainLogWith(t, func(l *impl.Log) { l.Who, l.Seq = o.who, o.seq }))
	}
}

func TestLogEachWhoAndSeq(t *testing.T) {
	for who := -2; who <= impl.LogWho+2; who++ {
		for seq := -2; seq <= impl.LogSeq+2; seq++ {
			l := impl.Log{Who: who, Seq: seq}
			if got, want := impl.LogOk(l), (owner{who, seq}).isOne(); got != want {
				t.Errorf("%d.%d: %v, not %v", who, seq, got, want)
			}
		}
	}
}

func TestLogWrongBases(t *testing.T) {
	wrongs := map[string]func(l *impl.Log){
		"none":                   func(l *impl.Log) { l.Bases = nil },
		"all but the first":      func(l *impl.Log) { l.Bases = l.Bases[1:] },
		"all but a middle one":   func(l *impl.Log) { l.Bases = slices.Delete(l.Bases, 2, 3) },
		"all but the last":       func(l *impl.Log) { l.Bases = l.Bases[:5] },
		"all but what is made":   func(l *impl.Log) { l.Bases = slices.Delete(l.Bases, 3, 4) },
		"one more ahead":         func(l *impl.Log) { l.Bases = slices.Insert(l.Bases, 0, base{Id: 0, Ver: 100}) },
		"one more between":       func(l *impl.Log) { l.Bases = slices.Insert(l.Bases, 3, base{Id: 7, Ver: 4}) },
		"one more behind":        func(l *impl.Log) { l.Bases = append(l.Bases, base{Id: 31, Ver: 317}) },
		"one of no object":       func(l *impl.Log) { l.Bases = append(l.Bases, base{Id: 32, Ver: 1}) },
		"the first twice":        func(l *impl.Log) { l.Bases = slices.Insert(l.Bases, 0, l.Bases[0]) },
		"one named twice":        func(l *impl.Log) { l.Bases[1] = l.Bases[0] },
		"two in the other order": func(l *impl.Log) { l.Bases[2], l.Bases[3] = l.Bases[3], l.Bases[2] },
		"the other way round":    func(l *impl.Log) { slices.Reverse(l.Bases) },
		"those of two lists":     func(l *impl.Log) { l.Bases = slices.Repeat(l.Bases, 2) },
		"those of another list":  func(l *impl.Log) { l.List = l.List[:2] },
		"those of a shorter one": func(l *impl.Log) { l.List = append(l.List, op{Kind: impl.OpText, Id: 3}) },
		"of no list":             func(l *impl.Log) { l.List = nil },
		"very many":              func(l *impl.Log) { l.Bases = slices.Repeat(l.Bases, 10000) },
	}
	for why, change := range wrongs {
		wantNoLog(t, why, plainLogWith(t, change))
	}
	for at := range plainLog(t).Bases {
		for _, id := range oddNumbers {
			l := plainLog(t)
			if id != l.Bases[at].Id {
				l.Bases[at].Id = id
				wantNoLog(t, "another Id", l)
			}
		}
	}
}

func TestLogVers(t *testing.T) {
	for at, was := range plainLog(t).Bases {
		for _, ver := range []int{0, 1, impl.TreeVer - 1, impl.TreeVer} {
			l := plainLog(t)
			l.Bases[at].Ver = ver
			if !impl.LogOk(l) {
				t.Errorf("a Ver of %d: not ok", ver)
			}
			if ver == was.Ver {
				wantFits(t, turnedTree(), l, true, -1)
			} else {
				wantFits(t, turnedTree(), l, false, was.Id)
			}
		}
		for _, ver := range []int{math.MinInt, -1, impl.TreeVer + 1, math.MaxInt} {
			wantNoLog(t, "a Ver that is none", plainLogWith(t, func(l *impl.Log) { l.Bases[at].Ver = ver }))
		}
	}
}

// Of an object that was turned as often as can be, a log leans on that.
func TestLogFitsWhereTheVersEnd(t *testing.T) {
	x := turnedTree()
	for _, id := range numbersOf(plainList(t)) {
		x.Objs[id].Ver = impl.TreeVer
	}
	l := wantLog(t, x, owner{1, 3}, plainList(t))
	wantFits(t, turnedTree(), l, false, 1)
	for _, id := range []int{31, 9, 8, 5, 2, 1} {
		x.Objs[id].Ver--
		wantFits(t, x, l, false, id)
	}
}

func TestLogFitsTellsTheFirst(t *testing.T) {
	l := plainLog(t)
	ids := numbersOf(l.List)
	for n := range 1 << len(ids) {
		x, first := turnedTree(), -1
		for at, id := range slices.Backward(ids) {
			if n>>at&1 == 1 {
				x.Objs[id].Ver++
				first = id
			}
		}
		wantFits(t, x, l, n == 0, first)
	}
}

// A log that can not be done fits all the same, if nothing was turned: only Vers count.
func TestLogFitsByVersAlone(t *testing.T) {
	l := plainLog(t)
	x := turnedTree()
	x.Objs[2].Text = "another"
	x.Objs[31].Kids, x.Objs[5].Kids = x.Objs[5].Kids, nil
	wantFits(t, x, l, true, -1)
	barred := impl.LogMake(x, 0, 9, opsOf(t, "gone 9 0 a", "text 3 =x"))
	wantFits(t, x, barred, true, -1)
}

func TestLogSame(t *testing.T) {
	others := map[string]func(l *impl.Log){
		"Who":              func(l *impl.Log) { l.Who = 2 },
		"Seq":              func(l *impl.Log) { l.Seq = 4 },
		"Who and Seq":      func(l *impl.Log) { l.Who, l.Seq = l.Seq, l.Who },
		"an Id":            func(l *impl.Log) { l.Bases[0].Id = 0 },
		"a later Id":       func(l *impl.Log) { l.Bases[5].Id = 30 },
		"a Ver":            func(l *impl.Log) { l.Bases[0].Ver++ },
		"a later Ver":      func(l *impl.Log) { l.Bases[5].Ver-- },
		"a Base fewer":     func(l *impl.Log) { l.Bases = l.Bases[:5] },
		"a Base more":      func(l *impl.Log) { l.Bases = append(l.Bases, base{}) },
		"no Bases":         func(l *impl.Log) { l.Bases = nil },
		"Bases' order":     func(l *impl.Log) { slices.Reverse(l.Bases) },
		"the list":         func(l *impl.Log) { l.List[0].Text = "y" },
		"the list's end":   func(l *impl.Log) { l.List[3].Name = "c" },
		"one fewer":        func(l *impl.Log) { l.List = l.List[:3] },
		"one more":         func(l *impl.Log) { l.List = append(l.List, op{}) },
		"no list":          func(l *impl.Log) { l.List = nil },
		"the list's order": func(l *impl.Log) { slices.Reverse(l.List) },
	}
	logs := []impl.Log{plainLog(t)}
	for _, change := range others {
		logs = append(logs, plainLogWith(t, change))
	}
	logs = append(logs, impl.Log{}, impl.Log{Who: 1, Seq: 3}, impl.Log{Who: math.MinInt, Seq: math.MaxInt, List: opsFarOff})
	for i, a := range logs {
		for j, b := range logs {
			wasA, wasB := copyLog(a), copyLog(b)
			if got := impl.LogSame(a, copyLog(b)); got != (i == j) {
				t.Errorf("LogSame of %v and %v: %v", a, b, got)
			}
			if !equalLogs(a, wasA) || !equalLogs(b, wasB) {
				t.Error("LogSame leaves another log")
			}
		}
	}
}

func TestLogSameOfEmptyLists(t *testing.T) {
	none := impl.Log{Who: 1, Seq: 3}
	empty := impl.Log{Who: 1, Seq: 3, Bases: []base{}, List: []op{}}
	roomy := impl.Log{Who: 1, Seq: 3, Bases: plainLog(t).Bases[:0], List: plainList(t)[:0]}
	for _, a := range []impl.Log{none, empty, roomy} {
		for _, b := range []impl.Log{none, empty, roomy} {
			if !impl.LogSame(a, b) {
				t.Errorf("%v and %v are not the same", a, b)
			}
		}
		if !impl.LogOk(a) {
			t.Errorf("%v is not ok", a)
		}
		wantFits(t, turnedTree(), a, true, -1)
	}
}

// Promise 5, of drawn trees and lists: some can be done, some can not.
func TestLogLeansOnJustWhatItNames(t *testing.T) {
	dice := slimDice{actDice: 6}
	seen := map[string]int{}
	for play := range 300 {
		_, x := dice.list(impl.TreeOpen(), dice.below(30))
		var list []op
		if play%2 == 0 {
			list, _ = dice.list(x, dice.below(impl.ActMost+1))
		} else {
			for range dice.below(8) {
				list = append(list, dice.op(x))
			}
		}
		l := wantLog(t, x, owner{dice.below(3), 1 + dice.below(1000)}, list)
		named := numbersOf(list)
		for id := range impl.TreeMax {
			if slices.Contains(named, id) {
				wantFits(t, turnedOnce(x, id), l, false, id)
				seen["named"]++
			} else {
				wantFits(t, turnedOnce(x, id), l, true, -1)
				seen["not named"]++
			}
		}
		for range 3 {
			wantFitsBehind(t, x, l, dice.next(x), seen)
		}
	}
	for _, what := range []string{"named", "not named", "turned", "not turned"} {
		if seen[what] < 30 {
			t.Errorf("%s: %d times only", what, seen[what])
		}
	}
}

// wantFitsBehind does something else of the tree ahead of the log.
func wantFitsBehind(t *testing.T, x impl.Tree, l impl.Log, o op, seen map[string]int) {
	t.Helper()
	y, code := impl.ActDo(x, o)
	if code != impl.ActFine {
		return
	}
	first := -1
	for _, id := range slices.Backward(numbersOf(l.List)) {
		if y.Objs[id].Ver != x.Objs[id].Ver {
			first = id
		}
	}
	wantFits(t, y, l, first == -1, first)
	if first == -1 {
		seen["not turned"]++
	} else {
		seen["turned"]++
	}
}

// What is done of things that a log does not name leaves it fitting.
func TestLogFitsBehindWhatItDoesNotName(t *testing.T) {
	x := turnedTree()
	l := impl.LogMake(x, 0, 1, opsOf(t, "text 2 =x", "text 1 =y"))
	y, code, _ := impl.ActAll(x, opsOf(t, "dir 8 0 x", "move 5 9 d 8 d", "move 9 0 a 31 a", "dir 10 31 b"))
	if code != impl.ActFine {
		t.Fatal(code)
	}
	wantFits(t, y, l, true, -1)
	y, _ = impl.ActDo(y, opsOf(t, "move 2 9 b 0 z")[0])
	wantFits(t, y, l, true, -1)
	y, _ = impl.ActDo(y, opsOf(t, "text 2 =x")[0])
	wantFits(t, y, l, false, 2)
}

func TestLogAnswersAreNewMemory(t *testing.T) {
	kept := op{Kind: 77, Name: "kept"}
	for _, list := range [][]op{nil, opsOf(t, "text 2 =x"), plainList(t), slimOfMost()} {
		x := roomyTree()
		room := append(slices.Clone(list), kept, kept)
		wasRoom := slices.Clone(room)
		first := impl.LogMake(x, 1, 3, room[:len(list)])
		want := copyLog(first)
		ids := impl.LogIds(room[:len(list)])
		fill(first.Bases, base{Id: -9, Ver: -9})
		if !slices.Equal(first.List, want.List) {
			t.Error("Bases and List share memory")
		}
		fill(first.List, op{Kind: -1, Name: "bad"})
		fill(ids, -9)
		if !slices.Equal(room, wasRoom) || !slices.EqualFunc(withRoom(x), withRoom(roomyTree()), sameObj) {
			t.Errorf("the log of %d: an argument, or what is behind its end, is another one", len(list))
		}
		if again := impl.LogMake(x, 1, 3, room[:len(list)]); !equalLogs(again, want) {
			t.Errorf("the log of %d: %v, and then %v", len(list), want, again)
		}
		if again := impl.LogIds(room[:len(list)]); !slices.Equal(again, numbersOf(list)) {
			t.Errorf("LogIds of %d: then %v", len(list), again)
		}
	}
}

func sameObj(a impl.Obj, b impl.Obj) bool {
	return a.Kind == b.Kind && a.Ver == b.Ver && a.Text == b.Text && slices.Equal(a.Kids, b.Kids)
}

// What looks at logs writes nothing behind the end of their lists.
func TestLogLooksOnly(t *testing.T) {
	roomy := func() impl.Log {
		l := plainLog(t)
		bases, list := append(l.Bases, base{Id: 77}), append(l.List, op{Kind: 77})
		l.Bases, l.List = bases[:len(bases)-1], list[:len(list)-1]
		return l
	}
	l, x := roomy(), roomyTree()
	impl.LogOk(l)
	impl.LogSame(l, l)
	impl.LogFits(x, l)
	was := roomy()
	if !slices.Equal(l.Bases[:7], was.Bases[:7]) || !slices.Equal(l.List[:5], was.List[:5]) {
		t.Error("a log, or what is behind its lists' ends, is another one")
	}
	if !slices.EqualFunc(withRoom(x), withRoom(roomyTree()), sameObj) {
		t.Error("the tree, or what is behind its lists' ends, is another one")
	}
}
