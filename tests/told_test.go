package tests

import (
	"fmt"
	"math"
	"slices"
	"strings"
	"testing"

	"loop.example/shieling/impl"
)

func TestToldFoldOfNoLog(t *testing.T) {
	for _, list := range [][]impl.Log{nil, {}, plainPastLogs(t)[:0]} {
		for _, n := range []int{math.MinInt, -2, -1, 0, 1, 2, math.MaxInt} {
			if x := wantFold(t, "no log", list, n, true); !impl.TreeSame(x, impl.TreeOpen()) {
				t.Errorf("%d of no log: %v", n, x)
			}
		}
	}
}

func plainPastLogs(t *testing.T) []impl.Log {
	t.Helper()
	logs, _ := logsOf(t, plainSteps...)
	return logs
}

// Of n below 0 it is the tree at the beginning, and of more than there are the one behind all.
func TestToldFoldOfSoMany(t *testing.T) {
	logs, trees := logsOf(t, plainSteps...)
	for n := -1; n <= len(logs)+1; n++ {
		want := trees[max(0, min(n, len(logs)))]
		if x := wantFold(t, "plain", logs, n, true); !impl.TreeSame(x, want) {
			t.Errorf("%d logs: %v, not %v", n, x, want)
		}
	}
	wantFoldTo(t, "plain", logs, len(logs))
	all := wantFold(t, "plain", logs, len(logs), true)
	if impl.TreePath(all, 7) != "/a/d" || impl.TreePath(all, 5) != "/c" || all.Objs[5].Text != "two" || all.Objs[8].Ver != 2 || all.Objs[0].Ver != 3 {
		t.Errorf("%v", all)
	}
}

// More logs than a world has room for can be folded.
func TestToldFoldOfMany(t *testing.T) {
	logs, trees := logsOf(t, busySteps(200)...)
	for _, n := range []int{-1, 0, 1, impl.WorldPast - 1, impl.WorldPast, impl.WorldPast + 1, 199, 200, 201} {
		if x := wantFold(t, "many", logs, n, true); !impl.TreeSame(x, trees[max(0, min(n, 200))]) {
			t.Errorf("%d logs: %v", n, x)
		}
	}
	void := slices.Repeat([]impl.Log{{Who: 2, Seq: 7}}, 3000)
	if x := wantFold(t, "logs of nothing", void, len(void), true); !impl.TreeSame(x, impl.TreeOpen()) {
		t.Errorf("%v", x)
	}
}

// wantWrong puts a log that can not come in to each place, between those that can, and instead of one of them.
func wantWrong(t *testing.T, why string, wrong func(x impl.Tree) impl.Log) {
	t.Helper()
	logs, trees := logsOf(t, plainSteps...)
	for at := range len(logs) + 1 {
		wantFoldTo(t, fmt.Sprint(why, ", between"), slices.Insert(slices.Clone(logs), at, wrong(trees[at])), at)
		if at < len(logs) {
			instead := slices.Clone(logs)
			instead[at] = wrong(trees[at])
			wantFoldTo(t, fmt.Sprint(why, ", instead"), instead, at)
		}
	}
}

func TestToldFoldOfLogsThatAreNotOk(t *testing.T) {
	for why, l := range logsNotOk(t) {
		if len(l.List) < 1000 {
			wantWrong(t, why, func(impl.Tree) impl.Log { return l })
		} else {
			wantFoldTo(t, why, []impl.Log{{Seq: 1}, l}, 1)
		}
	}
	for why, change := range map[string]func(l *impl.Log){
		"nobody's":      func(l *impl.Log) { l.Who = -1 },
		"one too far":   func(l *impl.Log) { l.Who = impl.LogWho },
		"a Seq of 0":    func(l *impl.Log) { l.Seq = 0 },
		"a Seq too far": func(l *impl.Log) { l.Seq = impl.LogSeq + 1 },
		"a Base fewer":  func(l *impl.Log) { l.Bases = l.Bases[1:] },
		"a Base more":   func(l *impl.Log) { l.Bases = append(l.Bases, base{Id: 31}) },
		"a thing":       func(l *impl.Log) { l.List = append(l.List, op{}) },
	} {
		// All else of it fits, and can be done.
		wantWrong(t, why, func(x impl.Tree) impl.Log {
			l := impl.LogMake(x, 1, 9, opsOf(t, "dir 20 0 far", "file 21 20 away"))
			change(&l)
			return l
		})
	}
}

// All of the list can be done, but one of Bases has another Ver, each in turn.
func TestToldFoldOfLogsThatDoNotFit(t *testing.T) {
	list := opsOf(t, "dir 20 0 far", "file 21 20 away")
	for at := range 3 {
		for _, more := range []int{-1, 1, 1000} {
			wantWrong(t, fmt.Sprint("Base ", at, " and ", more), func(x impl.Tree) impl.Log {
				l := impl.LogMake(x, 1, 9, list)
				l.Bases[at].Ver += more
				if l.Bases[at].Ver < 0 {
					l.Bases[at].Ver = 7
				}
				return l
			})
		}
	}
	wantWrong(t, "of a later tree", func(impl.Tree) impl.Log { return impl.LogMake(turnedTree(), 1, 9, list) })
}

// Nothing on which it leans was turned, but something of it can not be done.
func TestToldFoldOfListsThatCanNotBeDone(t *testing.T) {
	for _, lines := range []string{
		"text 20 =x",
		"gone 20 0 far",
		"dir 20 21 far",
		"dir 20 0 far; dir 20 0 far",
		"dir 20 0 far; file 21 20 away; gone 20 0 far",
		"dir 20 0 far; dir 21 20 away; move 20 0 far 21 b",
		"dir 20 0 far; file 21 20 away; text 21 =x; text 20 =x",
		"text 20 =x; dir 20 0 far; file 21 20 away",
	} {
		wantWrong(t, lines, func(x impl.Tree) impl.Log { return impl.LogMake(x, 1, 9, opsOf(t, splitLines(lines)...)) })
	}
}

func TestToldFoldOfALogTwice(t *testing.T) {
	logs, trees := logsOf(t, plainSteps...)
	for at := range logs {
		for to := at + 1; to <= len(logs); to++ {
			wantFoldTo(t, fmt.Sprint(at, " twice"), slices.Insert(slices.Clone(logs), to, logs[at]), to)
		}
	}
	// A log of nothing leans on nothing: it fits each time.
	void := impl.Log{Who: 1, Seq: 2}
	for at := range len(logs) + 1 {
		list := slices.Insert(slices.Clone(logs), at, void, void)
		wantFoldTo(t, "a log of nothing twice", list, len(list))
		if x := wantFold(t, "a log of nothing", list, at+2, true); !impl.TreeSame(x, trees[at]) {
			t.Errorf("logs of nothing at %d: %v, not %v", at, x, trees[at])
		}
	}
	// Made anew of the tree behind it, the same text comes in once more.
	again, _ := logsOf(t, append(slices.Clone(plainSteps), toldStep{1, 1, "text 5 =one"})...)
	wantFoldTo(t, "a text once more", again, len(again))
}

// Two that began with the same tree, and two of which one began with what the other left.
func TestToldFoldOfTwoClients(t *testing.T) {
	ahead := toldStep{2, 1, "file 5 0 a; file 6 0 b; dir 7 0 c"}
	logs, trees := logsOf(t, ahead)
	of := func(x impl.Tree, who int, lines string) impl.Log {
		return impl.LogMake(x, who, 1, opsOf(t, splitLines(lines)...))
	}
	for _, c := range []struct {
		a, b string
		both bool
	}{
		{"text 5 =x", "text 6 =y", true},
		{"text 5 =x; text 5 =y", "dir 9 7 k; file 8 7 m", true},
		{"file 9 0 k", "text 6 =y", true},
		{"file 9 7 k", "move 5 0 a 0 q", true},
		{"", "dir 9 7 k", true},
		{"text 5 =x", "text 5 =y", false},
		{"file 9 7 k", "file 8 7 m", false},
		{"file 9 7 k", "dir 9 0 k", false},
		{"gone 7 0 c", "dir 9 7 k", false},
		{"move 5 0 a 7 k", "gone 6 0 b", false},
	} {
		a, b := of(trees[1], 0, c.a), of(trees[1], 1, c.b)
		orders := [][]impl.Log{{logs[0], a, b}, {logs[0], b, a}}
		for _, list := range orders {
			place := 2
			if c.both {
				place = 3
			}
			wantFoldTo(t, c.a+" and "+c.b, list, place)
		}
		if c.both {
			x, y := wantFold(t, c.a, orders[0], 3, true), wantFold(t, c.b, orders[1], 3, true)
			if !impl.TreeSame(x, y) {
				t.Errorf("%q and %q: %v, and in the other order %v", c.a, c.b, x, y)
			}
		}
	}
	first, second := toldStep{0, 1, "dir 9 7 k"}, toldStep{1, 1, "file 8 9 m"}
	list, _ := logsOf(t, ahead, first, second)
	wantFoldTo(t, "one behind the other", list, 3)
	wantFoldTo(t, "one ahead of the other", []impl.Log{list[0], list[2], list[1]}, 1)
}

// Whose logs these are, and their numbers, do not matter to it.
func TestToldFoldOfAnyOwners(t *testing.T) {
	logs, trees := logsOf(t, plainSteps...)
	for _, o := range ownersOk {
		list := copiesOf(logs, copyLog)
		for at := range list {
			list[at].Who, list[at].Seq = o.who, o.seq
		}
		wantFoldTo(t, fmt.Sprint(o), list, len(list))
		if x := wantFold(t, fmt.Sprint(o), list, len(list), true); !impl.TreeSame(x, trees[len(logs)]) {
			t.Errorf("%v: %v", o, x)
		}
	}
}

func TestToldTree(t *testing.T) {
	wantOkTold(t, "a new one", impl.WorldOpen(), allTold)
	for many := range len(plainSteps) + 1 {
		wantOkTold(t, fmt.Sprint(many, " came in"), pastWorld(t, plainSteps[:many]...), allTold)
	}
	wantOkTold(t, "all told", toldWorld(t), allTold)
	wantOkTold(t, "a full one", pastWorld(t, busySteps(impl.WorldPast)...), allTold)
	wantOkTold(t, "a tree of other logs", plainWorld(t), toldAnswers{false, true, true})
	wantOkTold(t, "logs of nothing", changedWorld(toldWorld(t), func(w *world) { w.Past = append(w.Past, impl.Log{Who: 2, Seq: 5}) }), allTold)
	// What is done away, on its way or on a shelf does not matter to it.
	for why, change := range worldsApart(t) {
		if !strings.HasPrefix(why, "client ") && !strings.HasPrefix(why, "a message") {
			continue
		}
		w := changedWorld(toldWorld(t), change)
		want := noneTold
		if modelWorldOk(w) {
			want = allTold
		}
		wantTold(t, why, w, want)
	}
}

// treesApart are ok each, and differ from the server's tree of toldWorld in one part or two.
var treesApart = map[string]func(x *impl.Tree){
	"a Kind":             func(x *impl.Tree) { x.Objs[7].Kind = impl.TreeFile },
	"another Kind":       func(x *impl.Tree) { x.Objs[5].Kind, x.Objs[5].Text = impl.TreeDir, "" },
	"a Ver more":         func(x *impl.Tree) { x.Objs[5].Ver++ },
	"a Ver fewer":        func(x *impl.Tree) { x.Objs[5].Ver-- },
	"the top's Ver":      func(x *impl.Tree) { x.Objs[0].Ver++ },
	"a directory's Ver":  func(x *impl.Tree) { x.Objs[7].Ver-- },
	"one's that is gone": func(x *impl.Tree) { x.Objs[8].Ver++ },
	"nobody's Ver":       func(x *impl.Tree) { x.Objs[31].Ver = 1 },
	"a Text":             func(x *impl.Tree) { x.Objs[5].Text = "one" },
	"no Text":            func(x *impl.Tree) { x.Objs[5].Text = "" },
	"a longer Text":      func(x *impl.Tree) { x.Objs[5].Text = "two2" },
	"a Kid's name":       func(x *impl.Tree) { x.Objs[0].Kids[1].Name = "d" },
	"Kids' places":       func(x *impl.Tree) { x.Objs[0].Kids[1].Id, x.Objs[1].Kids[0].Id = 7, 5 },
	"a Kid more": func(x *impl.Tree) {
		x.Objs[7].Kids = []ent{{Name: "n", Id: 9}}
		x.Objs[9] = file("")
	},
	"a Kid fewer": func(x *impl.Tree) {
		x.Objs[1].Kids = nil
		x.Objs[7] = impl.Obj{Ver: x.Objs[7].Ver}
	},
	"another one": func(x *impl.Tree) { *x = turnedTree() },
	"a new one":   func(x *impl.Tree) { *x = impl.TreeOpen() },
}

func TestToldTreeOfOtherTrees(t *testing.T) {
	for why, change := range treesApart {
		w := changedWorld(toldWorld(t), func(w *world) { change(&w.Shop.Tree) })
		wantOkTold(t, why, w, toldAnswers{false, true, true})
	}
	_, trees := logsOf(t, plainSteps...)
	for n, x := range trees[:len(plainSteps)] {
		w := changedWorld(toldWorld(t), func(w *world) { w.Shop.Tree = x })
		wantOkTold(t, fmt.Sprint("as it was behind ", n), w, toldAnswers{false, true, true})
	}
}

func TestToldTreeOfOtherPasts(t *testing.T) {
	w := toldWorld(t)
	w.Told = nil
	for i := range w.Past {
		missing := changedWorld(w, func(w *world) { w.Past = slices.Delete(w.Past, i, i+1) })
		wantOkTold(t, fmt.Sprint(i, " is missing"), missing, toldAnswers{false, true, true})
		for j := range len(w.Past) + 1 {
			again := changedWorld(w, func(w *world) { w.Past = slices.Insert(w.Past, j, copyLog(w.Past[i])) })
			wantOkTold(t, fmt.Sprint(i, " is at ", j, " again"), again, toldAnswers{false, false, true})
		}
		for j := range i {
			turned := changedWorld(w, func(w *world) { w.Past[i], w.Past[j] = w.Past[j], w.Past[i] })
			wantOkTold(t, fmt.Sprint(i, " and ", j, " change places"), turned, toldAnswers{false, modelTold(turned).once, true})
		}
		other := changedWorld(w, func(w *world) { w.Past[i].Bases[0].Ver++ })
		wantOkTold(t, fmt.Sprint(i, " does not fit"), other, toldAnswers{false, true, true})
	}
	text := changedWorld(w, func(w *world) { w.Past[4].List[1].Text = "x" })
	wantOkTold(t, "the last one did something else", text, toldAnswers{false, true, true})
}

// Two that do not lean on each other may change places: the tree is the same one.
func TestToldTreeOfEitherOrder(t *testing.T) {
	w := pastWorld(t, toldStep{0, 1, "file 5 0 a; file 6 0 b"}, toldStep{1, 1, "text 5 =x"}, toldStep{2, 1, "text 6 =y"})
	wantOkTold(t, "one order", w, allTold)
	w.Past[1], w.Past[2] = w.Past[2], w.Past[1]
	wantOkTold(t, "the other order", w, allTold)
}

// toldNotOk is toldWorld with a fault each, that has nothing to do with Past, Told and the server's tree, if these are not at fault.
func toldNotOk(t *testing.T) map[string]world {
	t.Helper()
	worlds := map[string]world{"nothing": {}, "logs alone": {Past: plainPastLogs(t)}}
	for why, change := range map[string]func(w *world){
		"the server's Done":    func(w *world) { w.Shop.Dones[0].Seq = 0 },
		"the server's tree":    func(w *world) { w.Shop.Tree.Objs[31].Ver = -1 },
		"no tree":              func(w *world) { w.Shop.Tree = impl.Tree{} },
		"no clients":           func(w *world) { w.Keeps = nil },
		"a client fewer":       func(w *world) { w.Keeps = w.Keeps[:2] },
		"the first client":     func(w *world) { w.Keeps[0].Who = 1 },
		"the last client":      func(w *world) { w.Keeps[2].Waits = true },
		"a message":            func(w *world) { w.Net[0].Seq = 0 },
		"too many messages":    func(w *world) { w.Net = slices.Repeat(w.Net[:1], impl.WorldNet+1) },
		"a log":                func(w *world) { w.Past = append(w.Past, impl.Log{}) },
		"a log's Who":          func(w *world) { w.Past[4].Who = impl.LogWho },
		"a log's Who below 0":  func(w *world) { w.Past[0].Who = -1 },
		"a log's Who far off":  func(w *world) { w.Past[2].Who = math.MaxInt },
		"a log's Bases":        func(w *world) { w.Past[2].Bases = nil },
		"what is told":         func(w *world) { w.Told = append(w.Told, told{}) },
		"whose is told":        func(w *world) { w.Told[0].Who = -1 },
		"which is told":        func(w *world) { w.Told[5].Seq = impl.LogSeq + 1 },
		"a code that is none":  func(w *world) { w.Told[2].Code = impl.ShopForm },
		"a code below 0":       func(w *world) { w.Told[2].Code = -1 },
		"too many that told":   func(w *world) { w.Told = slices.Repeat(w.Told[:1], impl.WorldPast+1) },
		"very many that told":  func(w *world) { w.Told = slices.Repeat(w.Told[:1], 100000) },
		"very many that came":  func(w *world) { w.Past = slices.Repeat(w.Past, 100000) },
		"very many on the way": func(w *world) { w.Net = slices.Repeat(w.Net, 10000) },
	} {
		worlds[why] = changedWorld(toldWorld(t), change)
	}
	worlds["too many that came"] = pastWorld(t, busySteps(impl.WorldPast+1)...)
	return worlds
}

func TestToldOfWorldsThatAreNotOk(t *testing.T) {
	for why, w := range toldNotOk(t) {
		if impl.WorldOk(w) {
			t.Fatalf("%s: is ok", why)
		}
		wantTold(t, why, w, noneTold)
	}
}

func TestToldHas(t *testing.T) {
	for _, list := range [][]impl.Log{nil, {}, plainPastLogs(t)[:0]} {
		for who := -1; who <= impl.LogWho; who++ {
			for seq := -1; seq <= 5; seq++ {
				wantHas(t, list, who, seq, false)
			}
		}
	}
	logs := plainPastLogs(t) // 0.1 1.1 0.2 2.4 1.3
	for _, l := range logs {
		wantHas(t, logs, l.Who, l.Seq, true)
	}
	for _, none := range []owner{{0, 3}, {0, 4}, {1, 2}, {1, 4}, {2, 1}, {2, 2}, {2, 3}, {3, 1}, {-1, 1}, {0, 0}, {4, 2}, {3, 4}, {1, -1}, {1, 1001}} {
		wantHas(t, logs, none.who, none.seq, false)
	}
	in := map[owner]bool{{0, 1}: true, {1, 1}: true, {0, 2}: true, {2, 4}: true, {1, 3}: true}
	odd := []int{math.MinInt, -2, -1, 0, 1, 2, 3, 4, 5, 1000, 1001, math.MaxInt}
	for _, who := range odd {
		for _, seq := range odd {
			wantHas(t, logs, who, seq, in[owner{who, seq}])
		}
	}
}

// It is asked of any lists: of those with a log twice, of longer ones than a world has, and of logs that are not ok.
func TestToldHasOfAnyLists(t *testing.T) {
	logs := plainPastLogs(t)
	twice := append(slices.Clone(logs), logs...)
	wantHas(t, twice, 2, 4, true)
	wantHas(t, twice, 2, 5, false)
	many, _ := logsOf(t, busySteps(200)...)
	wantHas(t, many, 1, 67, true)
	wantHas(t, many, 2, 67, false)
	for why, l := range logsNotOk(t) {
		list := slices.Insert(slices.Clone(logs), 2, l)
		if got := impl.ToldHas(list, l.Who, l.Seq); !got {
			t.Errorf("%s: %d.%d is not there", why, l.Who, l.Seq)
		}
		wantHas(t, list, 2, 9, false)
		wantHas(t, list, 1, 3, true)
	}
	odd := []impl.Log{{Who: math.MinInt, Seq: math.MaxInt}, {Who: 0, Seq: -1}, {}}
	wantHas(t, odd, math.MinInt, math.MaxInt, true)
	wantHas(t, odd, math.MaxInt, math.MinInt, false)
	wantHas(t, odd, 0, 0, true)
	wantHas(t, odd, 0, -1, true)
	wantHas(t, odd, -1, 0, false)
}

// ownersWorld is a world in whose Past there are logs of these, as `0.1 2.7`; some of them are of nothing.
func ownersWorld(t *testing.T, owners string) world {
	t.Helper()
	return changedWorld(impl.WorldOpen(), func(w *world) {
		for at, name := range strings.Fields(owners) {
			var o owner
			if _, err := fmt.Sscanf(name, "%d.%d", &o.who, &o.seq); err != nil {
				t.Fatal(err)
			}
			l := pastLog(t, o.who, o.seq)
			if at%3 == 2 {
				l = impl.Log{Who: o.who, Seq: o.seq}
			}
			w.Past = append(w.Past, l)
		}
	})
}

func TestToldOnce(t *testing.T) {
	for owners, once := range map[string]bool{
		"":                          true,
		"0.1":                       true,
		"0.1000":                    true,
		"0.1 0.2":                   true,
		"0.1 0.2 0.3":               true,
		"0.7 0.9 0.1000":            true,
		"0.1 0.1":                   false,
		"0.1000 0.1000":             false,
		"0.2 0.1":                   false,
		"0.1000 0.1":                false,
		"0.1 0.2 0.2":               false,
		"0.1 0.1 0.2":               false,
		"0.1 0.3 0.2":               false,
		"0.3 0.1 0.2":               false,
		"0.3 0.1 0.4":               false,
		"0.1 1.1":                   true,
		"0.1 1.1 2.1":               true,
		"0.2 1.1":                   true,
		"0.9 1.5 2.1":               true,
		"0.1 1.1 0.2":               true,
		"0.1 1.9 0.2 1.10":          true,
		"0.1 1.1 0.1":               false,
		"0.2 1.3 0.1":               false,
		"0.2 1.1 0.1":               false,
		"0.1 1.5 2.5 0.1":           false,
		"0.5 1.1 2.1 0.4":           false,
		"0.5 1.1 2.1 0.6":           true,
		"0.5 1.1 2.1 0.6 1.1":       false,
		"0.1 1.1 2.1 2.2 1.2 0.2":   true,
		"0.1 1.1 2.1 2.2 1.2 0.1":   false,
		"0.3 1.3 0.4 1.4 0.5 1.5":   true,
		"0.3 1.3 0.4 1.4 0.5 1.3":   false,
		"0.1 0.2 0.3 0.4 0.5 0.4":   false,
		"1.3 1.2 0.1 0.2 0.3 0.100": false,
	} {
		// So it is of each client.
		for turn := range impl.LogWho {
			w := ownersWorld(t, owners)
			for at := range w.Past {
				w.Past[at].Who = (w.Past[at].Who + turn) % impl.LogWho
			}
			if got := impl.ToldOnce(w); got != once {
				t.Errorf("%v: once is %v", ownersIn(w.Past), got)
			}
			wantOkTold(t, owners, w, toldAnswers{modelTold(w).tree, once, true})
		}
	}
	full := withPast(t, impl.WorldOpen(), impl.WorldPast)
	wantOkTold(t, "a full one", full, toldAnswers{false, true, true})
	for at := range impl.WorldPast {
		again := changedWorld(full, func(w *world) { w.Past[at].Seq = 1 })
		if got := impl.ToldOnce(again); got != (at < impl.LogWho) {
			t.Errorf("a full one, with a Seq of 1 at %d: once is %v", at, got)
		}
	}
}

// What was told does not matter to it, nor what the server knows as last logs.
func TestToldOnceOfPastAlone(t *testing.T) {
	w := changedWorld(toldWorld(t), func(w *world) {
		w.Shop.Dones = []done{lastLog(0, 1, impl.ShopClash)}
		w.Told = slices.Repeat([]told{{Who: 1, Seq: 9, Code: impl.ShopDone}}, 2)
	})
	wantOkTold(t, "others told", w, toldAnswers{true, true, false})
}

// 0.1, 1.1, 0.2, 2.4 and 1.3 came in; each is told with each code, at the first, a middle and the last place.
func TestToldTrue(t *testing.T) {
	wantOkTold(t, "nothing told", changedWorld(toldWorld(t), func(w *world) { w.Told = nil }), allTold)
	wantOkTold(t, "nothing told and nothing past", impl.WorldOpen(), allTold)
	in := []owner{{0, 1}, {1, 1}, {0, 2}, {2, 4}, {1, 3}}
	out := []owner{{0, 3}, {0, 4}, {1, 2}, {1, 4}, {1, 1000}, {2, 1}, {2, 2}, {2, 3}, {2, 5}}
	for code := range 3 {
		for _, o := range slices.Concat(in, out) {
			want := allTold
			want.told = slices.Contains(in, o) == (code == impl.ShopDone)
			x := told{Who: o.who, Seq: o.seq, Code: code}
			alone := changedWorld(toldWorld(t), func(w *world) { w.Told = []told{x} })
			wantOkTold(t, fmt.Sprint(x), alone, want)
			for _, at := range []int{0, 3, 6} {
				w := changedWorld(toldWorld(t), func(w *world) { w.Told = slices.Insert(w.Told, at, x) })
				wantOkTold(t, fmt.Sprint(x, " at ", at), w, want)
			}
		}
	}
	// A world that is told any other code is not ok.
	for _, code := range []int{math.MinInt, -1, impl.ShopForm, 4, math.MaxInt} {
		for _, o := range []owner{in[0], out[0]} {
			x := told{Who: o.who, Seq: o.seq, Code: code}
			wantTold(t, fmt.Sprint(x), changedWorld(toldWorld(t), func(w *world) { w.Told = []told{x} }), noneTold)
		}
	}
}

// One that was told in two ways is not true, whether it came in or not; in one way twice it is.
func TestToldTrueOfToldTwice(t *testing.T) {
	for _, c := range []struct {
		seq, first, second int
		told               bool
	}{
		{1, impl.ShopDone, impl.ShopDone, true},
		{1, impl.ShopDone, impl.ShopClash, false},
		{1, impl.ShopClash, impl.ShopDone, false},
		{1, impl.ShopOld, impl.ShopDone, false},
		{9, impl.ShopClash, impl.ShopClash, true},
		{9, impl.ShopClash, impl.ShopOld, true},
		{9, impl.ShopClash, impl.ShopDone, false},
		{9, impl.ShopDone, impl.ShopOld, false},
		{9, impl.ShopDone, impl.ShopDone, false},
	} {
		w := changedWorld(toldWorld(t), func(w *world) {
			w.Told = []told{{Seq: c.seq, Code: c.first}, {Seq: c.seq, Code: c.second}}
		})
		wantOkTold(t, fmt.Sprint(c), w, toldAnswers{true, true, c.told})
	}
}

// In Past is what came in, be it there twice, of nothing, or not fitting.
func TestToldTrueOfPastAlone(t *testing.T) {
	w := changedWorld(ownersWorld(t, "0.5 0.5 1.4 0.2"), func(w *world) {
		w.Told = []told{{Who: 0, Seq: 2}, {Who: 0, Seq: 5}, {Who: 1, Seq: 4}, {Who: 1, Seq: 5, Code: impl.ShopClash}}
	})
	wantOkTold(t, "any Past", w, toldAnswers{false, false, true})
	full := changedWorld(pastWorld(t, busySteps(impl.WorldPast)...), func(w *world) {
		for _, l := range w.Past {
			w.Told = append(w.Told, told{Who: l.Who, Seq: l.Seq})
		}
	})
	wantOkTold(t, "a full one", full, allTold)
	for at := range impl.WorldPast {
		wrong := changedWorld(full, func(w *world) { w.Told[at].Code = impl.ShopClash })
		wantOkTold(t, fmt.Sprint("a full one, wrong at ", at), wrong, toldAnswers{true, true, false})
	}
}
