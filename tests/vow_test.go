package tests

import (
	"fmt"
	"slices"
	"testing"

	"loop.example/shieling/impl"
)

func TestVowsOfWorldOpen(t *testing.T) {
	wantVows(t, "a new one", impl.WorldOpen(), allVows)
	for at, m := range carriersOf(impl.TreeOpen()) {
		w := changedWorld(impl.WorldOpen(), func(w *world) { w.Net = []msg{m} })
		wantVows(t, fmt.Sprint("a new one with message ", at), w, allVows)
	}
	wantVows(t, "one of all parts", vowWorld(t), allVows)
	wantVows(t, "one of clients alone", bareWorld(t), allVows)
}

// The tree behind no log, the first, those in the middle and the last one; and each with a part that is another one.
func TestVowOfTreesThatTheServerHad(t *testing.T) {
	w, trees := toldWorld(t), plainTrees(t)
	for n, x := range trees {
		wantHad(t, fmt.Sprint("behind ", n), w, x, true)
		wantHad(t, fmt.Sprint("behind ", n, ", with a Ver"), w, turnedOnce(x, 31), false)
		wantHad(t, fmt.Sprint("behind ", n, ", and something more"), w, behind(t, x, "dir 20 0 far"), false)
	}
	for why, change := range treesApart {
		if why != "a new one" {
			x := copyTree(trees[5])
			change(&x)
			wantHad(t, why, w, x, false)
		}
	}
	for why, change := range map[string]func(x *impl.Tree){
		"a Kind":       func(x *impl.Tree) { x.Objs[1].Kind = impl.TreeFile },
		"a Text":       func(x *impl.Tree) { x.Objs[5].Text = "on" },
		"a Kid's name": func(x *impl.Tree) { x.Objs[0].Kids[0].Name = "aa" },
		"a Ver":        func(x *impl.Tree) { x.Objs[1].Ver++ },
	} {
		x := copyTree(trees[3])
		change(&x)
		wantHad(t, "in the middle, "+why, w, x, false)
	}
}

func TestVowOfManyLogs(t *testing.T) {
	w := pastWorld(t, busySteps(impl.WorldPast)...)
	_, trees := logsOf(t, busySteps(impl.WorldPast+1)...)
	for n, x := range trees {
		if n%7 < 2 || n > 57 {
			wantHad(t, fmt.Sprint("behind ", n, " of 60"), w, x, n <= impl.WorldPast)
		}
	}
}

// A tree counts only if it is behind logs of Past: what the server has now, what is told and what is on its way does not matter.
func TestVowOfTreesThatAreNotOfPast(t *testing.T) {
	logs, trees := logsOf(t, plainSteps...)
	for i := range logs {
		missing := changedWorld(toldWorld(t), func(w *world) { w.Past = slices.Delete(w.Past, i, i+1) })
		for n, x := range trees {
			wantHad(t, fmt.Sprint("behind ", n, " without ", i), missing, x, n <= i)
		}
		cut := changedWorld(toldWorld(t), func(w *world) { w.Past = w.Past[:i] })
		for n, x := range trees {
			wantHad(t, fmt.Sprint("behind ", n, " of ", i), cut, x, n <= i)
		}
	}
	for n, x := range trees {
		now := changedWorld(impl.WorldOpen(), func(w *world) { w.Shop.Tree = x })
		wantHad(t, fmt.Sprint("the server's tree alone, behind ", n), now, x, n == 0)
		other := changedWorld(toldWorld(t), func(w *world) { w.Shop.Tree = turnedTree() })
		wantHad(t, fmt.Sprint("behind ", n, ", with another one on the server"), other, x, true)
	}
	wantHad(t, "the other one", changedWorld(toldWorld(t), func(w *world) { w.Shop.Tree = turnedTree() }), turnedTree(), false)
}

// cutLists can not be done behind any of plainSteps; some of them can in part.
var cutLists = []string{
	"text 20 =x",
	"gone 20 0 far",
	"dir 20 0 far; dir 20 0 far",
	"dir 20 0 far; file 21 20 away; gone 20 0 far",
	"text 20 =x; dir 20 0 far; file 21 20 away",
}

// Behind a list that can not be done there are no more trees, though those behind it could be done.
func TestVowOfAListThatCanNotBeDone(t *testing.T) {
	logs, trees := logsOf(t, plainSteps...)
	for _, lines := range cutLists {
		for at := range len(logs) + 1 {
			cut := changedWorld(toldWorld(t), func(w *world) {
				w.Past = slices.Insert(w.Past, at, impl.LogMake(trees[at], 1, 9, opsOf(t, splitLines(lines)...)))
			})
			why := fmt.Sprint(lines, " at ", at)
			for n := max(0, at-1); n < len(trees) && n <= at+1; n++ {
				wantHad(t, fmt.Sprint(why, ", behind ", n), cut, trees[n], n <= at)
			}
			wantHad(t, why+", in part", cut, behind(t, trees[at], "dir 20 0 far"), false)
			wantHad(t, why+", the last", cut, trees[5], at == 5)
			wantHad(t, why+", the first", cut, trees[0], true)
		}
	}
}

// What is asked is only whether the lists can be done: a log need not fit, nor be of anybody's next Seq.
func TestVowOfLogsThatDoNotFit(t *testing.T) {
	trees := plainTrees(t)
	for i := range plainSteps {
		other := changedWorld(toldWorld(t), func(w *world) { w.Past[i].Bases[0].Ver += 7 })
		same := changedWorld(toldWorld(t), func(w *world) { w.Past[i].Who, w.Past[i].Seq = 2, 4 })
		for n, x := range trees {
			wantHad(t, fmt.Sprint("behind ", n, ", ", i, " does not fit"), other, x, true)
			wantHad(t, fmt.Sprint("behind ", n, ", ", i, " is 2.4"), same, x, true)
		}
	}
	for at := range len(plainSteps) + 1 {
		void := changedWorld(toldWorld(t), func(w *world) { w.Past = slices.Insert(w.Past, at, impl.Log{Who: 2, Seq: 7}) })
		for n, x := range trees {
			wantHad(t, fmt.Sprint("behind ", n, ", of nothing at ", at), void, x, true)
		}
	}
	again := changedWorld(toldWorld(t), func(w *world) { w.Past = append(w.Past, copyLog(w.Past[1])) })
	wantHad(t, "a text once more", again, behind(t, trees[5], "text 5 =one"), true)
}

// What a client sees, or has in the middle, is not what it began with; and one alone that did not is enough.
func TestVowBaseOfBasesAlone(t *testing.T) {
	trees := plainTrees(t)
	for who := range impl.LogWho {
		full := changedWorld(bareWorld(t), func(w *world) {
			w.Keeps[who] = keep{
				Who: who, Seq: 9, Base: trees[3], Waits: true,
				Sent:  opsOf(t, "dir 20 0 far"),
				List:  opsOf(t, "file 21 20 away"),
				Shelf: [][]op{opsOf(t, "text 30 =x"), nil},
			}
		})
		wantBase(t, fmt.Sprint("client ", who, " did much"), full, true)
		done := changedWorld(full, func(w *world) {
			w.Keeps[who].Base = behind(t, trees[3], "dir 20 0 far")
			w.Keeps[who].Sent = opsOf(t, "text 5 =x")
		})
		wantBase(t, fmt.Sprint("client ", who, " began with what it did"), done, false)
		for other := range impl.LogWho {
			two := changedWorld(done, func(w *world) { w.Keeps[other] = keep{Who: other, Base: turnedTree()} })
			wantBase(t, fmt.Sprint("clients ", who, " and ", other), two, false)
		}
	}
}

// wrongVowWorlds is worlds of which just one thing is false that VowAll asks for.
func wrongVowWorlds(t *testing.T) map[string]world {
	t.Helper()
	return map[string]world{
		"VowBase":  changedWorld(vowWorld(t), func(w *world) { w.Keeps[2].Base.Objs[31].Ver++ }),
		"VowWay":   changedWorld(vowWorld(t), func(w *world) { w.Net[2].Log.List[1].Text = "x" }),
		"VowTrees": changedWorld(vowWorld(t), func(w *world) { w.Net[3].Tree.Objs[31].Ver++ }),
		"ToldTree": changedWorld(vowWorld(t), func(w *world) { w.Shop.Tree.Objs[31].Ver++ }),
		"ToldOnce": changedWorld(vowWorld(t), func(w *world) { w.Past = append(w.Past, impl.Log{Who: 2, Seq: 2}) }),
		"ToldTrue": changedWorld(vowWorld(t), func(w *world) { w.Told[2].Code = impl.ShopDone }),
	}
}

func TestVowAllOfOneThatIsFalse(t *testing.T) {
	worlds := wrongVowWorlds(t)
	for name, want := range map[string]vowAnswers{
		"VowBase":  {base: false, way: true, trees: true},
		"VowWay":   {base: true, way: false, trees: true},
		"VowTrees": {base: true, way: true, trees: false},
		"ToldTree": {base: true, way: true, trees: true},
		"ToldOnce": {base: true, way: true, trees: true},
		"ToldTrue": {base: true, way: true, trees: true},
	} {
		w := worlds[name]
		wantOkVows(t, name, w, want)
		wantVows(t, name, w, want)
		wantOkTold(t, name, w, toldAnswers{name != "ToldTree", name != "ToldOnce", name != "ToldTrue"})
	}
	wantVows(t, "none", vowWorld(t), allVows)
	wantOkTold(t, "none", vowWorld(t), allTold)
}

// Each vow of a world that is not ok is false, whatever it would say of its parts.
func TestVowsOfWorldsThatAreNotOk(t *testing.T) {
	for why, w := range toldNotOk(t) {
		if impl.WorldOk(w) {
			t.Fatalf("%s: is ok", why)
		}
		wantVows(t, why, w, noVows)
	}
	for why, change := range map[string]func(w *world){
		"nothing":            func(w *world) { *w = world{} },
		"no clients":         func(w *world) { w.Keeps = nil },
		"a client fewer":     func(w *world) { w.Keeps = w.Keeps[:2] },
		"a client more":      func(w *world) { w.Keeps = append(w.Keeps, keep{Who: 3, Base: impl.TreeOpen()}) },
		"clients' order":     func(w *world) { w.Keeps[0], w.Keeps[1] = w.Keeps[1], w.Keeps[0] },
		"a full shelf":       func(w *world) { w.Keeps[0].Shelf = make([][]op, impl.KeepShelf+1) },
		"what is shelved":    func(w *world) { w.Keeps[0].Shelf[0][0] = op{} },
		"what was done":      func(w *world) { w.Keeps[2].List[0].Id = 30 },
		"it does not wait":   func(w *world) { w.Keeps[1].Waits = false },
		"a Seq below 0":      func(w *world) { w.Keeps[2].Seq = -1 },
		"a message's Who":    func(w *world) { w.Net[0].Who, w.Net[0].Log.Who = 3, 3 },
		"one's below 0":      func(w *world) { w.Net[1].Who = -1 },
		"a message's kind":   func(w *world) { w.Net[4].Kind = 5 },
		"a message's log":    func(w *world) { w.Net[2].Log.Who = 2 },
		"a log in a fetch":   func(w *world) { w.Net[4].Log = copyLog(w.Past[0]) },
		"a message's tree":   func(w *world) { w.Net[1].Tree = impl.Tree{} },
		"a verdict's code":   func(w *world) { w.Net[3].Code = impl.ShopForm },
		"a message too many": func(w *world) { *w = withNet(*w, impl.WorldNet+1) },
		"the server's tree":  func(w *world) { w.Shop.Tree.Objs[5].Ver = 0 },
		"the server's Dones": func(w *world) { slices.Reverse(w.Shop.Dones) },
		"a log that came in": func(w *world) { w.Past[4].Bases[0].Ver = -1 },
		"what was told":      func(w *world) { w.Told[0].Seq = 0 },
		"one told too many":  func(w *world) { *w = withTold(*w, impl.WorldPast+1) },
	} {
		w := changedWorld(vowWorld(t), change)
		if impl.WorldOk(w) {
			t.Fatalf("%s: is ok", why)
		}
		wantVows(t, why, w, noVows)
	}
}
