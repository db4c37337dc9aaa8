package tests

import (
	"slices"
	"strconv"
	"testing"

	"loop.example/shieling/impl"
)

// behind is a tree behind lines that somebody else did.
func behind(t *testing.T, x impl.Tree, lines string) impl.Tree {
	t.Helper()
	y, ok := modelBehind(x, opsOf(t, splitLines(lines)...))
	if !ok {
		t.Fatalf("%q can not be done", lines)
	}
	return y
}

// cameIn is the server's tree behind what a client sent, and what others did then.
func cameIn(t *testing.T, k keep, lines string) impl.Tree {
	t.Helper()
	middle, _, ok := modelTrees(k)
	if !ok {
		t.Fatalf("%v is not ok", k)
	}
	return behind(t, middle, lines)
}

func TestKeepTakeOfMessagesThatAreNotOk(t *testing.T) {
	for why, m := range msgsNotOk(t) {
		for _, k := range []keep{waitingKeep(t), restingKeep(t), impl.KeepOpen(0)} {
			got, end := wantTook(t, k, m)
			if end || !equalKeeps(got, k) {
				t.Errorf("%s: %v, %v", why, got, end)
			}
		}
	}
	// Such a message could else be taken: only the code, or the tree, is not one.
	k := waitingKeep(t)
	wantStays(t, k, verdictMsg(1, 3, impl.ShopForm, cameIn(t, k, "")))
	wantStays(t, k, verdictMsg(1, 3, -1, cameIn(t, k, "")))
	wantStays(t, k, changed(verdictMsg(1, 3, impl.ShopDone, cameIn(t, k, "")), func(m *msg) { m.Tree.Objs[9].Ver = 0 }))
	wantStays(t, k, changed(verdictMsg(1, 3, impl.ShopDone, cameIn(t, k, "")), func(m *msg) { m.Log = plainLog(t) }))
	wantStays(t, restingKeep(t), changed(treeMsg(1, 3, turnedTree()), func(m *msg) { m.Code = impl.ShopClash }))
}

// stillFine is a tree on which all can stand that a client did; it is another one than its own.
func stillFine(t *testing.T, k keep) impl.Tree { return cameIn(t, k, "dir 20 0 far") }

func TestKeepTakeOfAnotherClientOrSeq(t *testing.T) {
	for _, k := range []keep{waitingKeep(t), restingKeep(t)} {
		for who := range impl.LogWho {
			for _, seq := range []int{1, 2, 3, 4, 5, impl.LogSeq} {
				msgs := []msg{treeMsg(who, seq, stillFine(t, k))}
				for code := range 3 {
					msgs = append(msgs, verdictMsg(who, seq, code, stillFine(t, k)))
				}
				for _, m := range msgs {
					if who != 1 || seq != 3 || k.Waits != (m.Kind == impl.MsgVerdict) {
						wantStays(t, k, m)
						continue
					}
					if got := wantEnd(t, k, m, k.Waits); !impl.TreeSame(got.Base, m.Tree) {
						t.Errorf("%v takes %v: %v", k, m, got)
					}
				}
			}
		}
	}
}

func TestKeepTakeOfFetchesAndLogs(t *testing.T) {
	for _, k := range []keep{waitingKeep(t), restingKeep(t)} {
		for who := range impl.LogWho {
			for seq := 2; seq <= 4; seq++ {
				wantStays(t, k, fetchMsg(who, seq))
				wantStays(t, k, logMsg(impl.LogMake(k.Base, who, seq, k.Sent)))
				wantStays(t, k, logMsg(impl.LogMake(k.Base, who, seq, plainList(t))))
			}
		}
	}
}

// A client that has sent nothing takes no message: no message has the number 0.
func TestKeepTakeOfOneThatHasSentNothing(t *testing.T) {
	k := impl.KeepOpen(1)
	for seq := -1; seq < 3; seq++ {
		wantStays(t, k, treeMsg(1, seq, turnedTree()))
		wantStays(t, k, verdictMsg(1, seq, impl.ShopDone, turnedTree()))
	}
}

func TestKeepTakeOfATree(t *testing.T) {
	k := restingKeep(t)
	fresh := behind(t, k.Base, "dir 20 0 far; file 21 20 off")
	got := wantEnd(t, k, treeMsg(1, 3, fresh), false)
	if !impl.TreeSame(got.Base, fresh) || !slices.Equal(got.List, k.List) || len(got.Shelf) != 2 || got.Seq != 3 {
		t.Errorf("%v", got)
	}
	if x := impl.KeepView(got); impl.TreePath(x, 21) != "/far/off" || impl.TreePath(x, 8) != "/a/c" {
		t.Error(x)
	}
	// With nothing done it can be any tree.
	k.List = nil
	for _, x := range []impl.Tree{impl.TreeOpen(), turnedTree(), chainTree(), fresh} {
		if got := wantEnd(t, k, treeMsg(1, 3, x), false); !impl.TreeSame(got.Base, x) {
			t.Errorf("%v", got)
		}
	}
	// One that waits is told by the verdict: a tree that comes late would hide what is on its way.
	waits := waitingKeep(t)
	wantStays(t, waits, treeMsg(1, 3, cameIn(t, waits, "")))
	wantStays(t, waits, treeMsg(1, 3, waits.Base))
}

// A full shelf does not matter to a tree, as nothing is lost by it.
func TestKeepTakeOfATreeWithAFullShelf(t *testing.T) {
	k := withShelf(restingKeep(t), impl.KeepShelf)
	if got := wantEnd(t, k, treeMsg(1, 3, stillFine(t, k)), false); impl.TreePath(got.Base, 20) != "/far" {
		t.Errorf("%v", got)
	}
	wantStays(t, k, treeMsg(1, 3, behind(t, k.Base, "text 2 =no")))
}

// What was asked for ahead of something that was done comes behind it, or behind what was sent since.
func TestKeepTakeOfATreeThatComesLate(t *testing.T) {
	s, seen := impl.Shop{Tree: turnedTree()}, impl.Shop{Tree: behind(t, turnedTree(), "dir 20 0 far")}
	k, fetch := wantSend(t, keep{Who: 1, Base: turnedTree()})
	_, first, _ := impl.MsgServe(s, fetch[0])
	_, second, _ := impl.MsgServe(seen, fetch[0])
	k = wantDo(t, k, opsOf(t, "text 2 =x")[0], impl.ActFine)
	k = wantEnd(t, k, second[0], false)
	if impl.TreePath(impl.KeepView(k), 20) != "/far" || impl.KeepView(k).Objs[2].Text != "x" {
		t.Errorf("%v", k)
	}
	// The older one comes behind the newer one: the list stands on it as well.
	k = wantEnd(t, k, first[0], false)
	k = wantDo(t, wantEnd(t, k, second[0], false), opsOf(t, "file 8 20 c")[0], impl.ActFine)
	wantStays(t, k, first[0])
	k, out := wantSend(t, k)
	wantStays(t, k, first[0])
	wantStays(t, k, second[0])
	behindIt, verdict, _ := impl.MsgServe(seen, out[0])
	k = wantEnd(t, k, verdict[0], true)
	wantStays(t, k, second[0])
	if !impl.TreeSame(k.Base, behindIt.Tree) || impl.TreePath(k.Base, 8) != "/far/c" {
		t.Errorf("%v", k)
	}
}

// standCase is a list that is done of turnedTree, and another tree on which it may stand or not.
type standCase struct {
	why    string
	list   string
	change func(x *impl.Tree)
	stands bool
	// done says whether all of it can be done of that tree.
	done bool
}

var standCases = []standCase{
	{"the same", "text 2 =x; file 8 9 c", func(x *impl.Tree) {}, true, true},
	{"no list", "", func(x *impl.Tree) { *x = chainTree() }, true, true},
	{"other Vers", "text 2 =x; file 8 9 c; move 1 5 b 31 b", func(x *impl.Tree) {
		for _, id := range []int{0, 1, 2, 5, 9, 31} {
			x.Objs[id].Ver = 1 + id
		}
	}, true, true},
	{"something that it does not name", "text 2 =x; file 8 31 c", func(x *impl.Tree) {
		x.Objs[1].Text = "other"
		x.Objs[9].Kids = append(x.Objs[9].Kids, ent{Name: "x", Id: 20})
		x.Objs[20] = file("")
	}, true, true},
	{"another name of what it names", "text 2 =x", func(x *impl.Tree) { x.Objs[9].Kids[0].Name = "a" }, true, true},
	{"another place of what it names", "text 2 =x", func(x *impl.Tree) {
		x.Objs[9].Kids = x.Objs[9].Kids[1:]
		x.Objs[31].Kids = []ent{{Name: "b", Id: 2}}
	}, true, true},

	{"another text", "text 2 =x", func(x *impl.Tree) { x.Objs[2].Text = "one2" }, false, true},
	{"no text", "text 2 =x", func(x *impl.Tree) { x.Objs[2].Text = "" }, false, true},
	{"another text of what moves", "move 1 5 b 31 b", func(x *impl.Tree) { x.Objs[1].Text = "x" }, false, true},
	{"another text of what goes", "gone 2 9 b", func(x *impl.Tree) { x.Objs[2].Text = "mine" }, false, true},
	{"another text of the second thing", "file 8 31 c; text 2 =x", func(x *impl.Tree) { x.Objs[2].Text = "two" }, false, true},
	{"just the text that it has then", "text 2 =x", func(x *impl.Tree) { x.Objs[2].Text = "x" }, false, true},

	{"another kind of what moves", "move 1 5 b 31 b", func(x *impl.Tree) { x.Objs[1] = dir() }, false, true},
	{"another kind of what goes", "gone 31 0 e", func(x *impl.Tree) { x.Objs[31] = file("") }, false, true},
	{"another kind, behind other things", "file 8 9 c; gone 1 5 b", func(x *impl.Tree) { x.Objs[1] = dir() }, false, true},

	{"a name more", "file 8 9 c", func(x *impl.Tree) {
		x.Objs[9].Kids = append(x.Objs[9].Kids, ent{Name: "x", Id: 20})
		x.Objs[20] = file("")
	}, false, true},
	{"a name fewer", "file 8 9 c", func(x *impl.Tree) { x.Objs[9].Kids, x.Objs[2] = x.Objs[9].Kids[1:], impl.Obj{Ver: 9} }, false, true},
	{"another name", "file 8 9 c", func(x *impl.Tree) { x.Objs[9].Kids[0].Name = "a" }, false, true},
	{"the name of another one", "file 8 5 c", func(x *impl.Tree) {
		x.Objs[5].Kids[0].Id, x.Objs[9].Kids[0].Id = 2, 1
	}, false, true},
	{"names of the second directory", "move 2 9 b 31 b", func(x *impl.Tree) {
		x.Objs[31].Kids = []ent{{Name: "x", Id: 20}}
		x.Objs[20] = file("")
	}, false, true},
	{"names of what moves", "move 5 9 d 31 d", func(x *impl.Tree) { x.Objs[5].Kids, x.Objs[1] = nil, impl.Obj{Ver: 9} }, false, true},

	{"the number is somebody's", "file 8 9 c", func(x *impl.Tree) {
		x.Objs[31].Kids = []ent{{Name: "x", Id: 8}}
		x.Objs[8] = file("")
	}, false, false},
	{"the number was somebody's", "file 8 9 c", func(x *impl.Tree) { x.Objs[8].Ver = 2 }, false, false},
	{"the last turn was made", "text 2 =x", func(x *impl.Tree) { x.Objs[2].Ver = impl.TreeVer }, false, false},
	{"the last turn but one was made", "text 2 =x", func(x *impl.Tree) { x.Objs[2].Ver = impl.TreeVer - 1 }, true, true},
	{"the last turn but one, of two texts", "text 2 =x; text 2 =y", func(x *impl.Tree) { x.Objs[2].Ver = impl.TreeVer - 1 }, false, false},
	{"a ring", "move 5 9 d 31 d", func(x *impl.Tree) {
		x.Objs[0].Kids = x.Objs[0].Kids[:1]
		x.Objs[5].Kids = append(x.Objs[5].Kids, ent{Name: "e", Id: 31})
	}, false, false},
	{"what goes has names", "gone 31 0 e", func(x *impl.Tree) {
		x.Objs[31].Kids = []ent{{Name: "x", Id: 20}}
		x.Objs[20] = file("")
	}, false, false},
	{"what it names is nowhere", "text 2 =x", func(x *impl.Tree) { *x = impl.TreeOpen() }, false, false},
}

// standTree is the other tree of a case; a fault of the case is a fault of the test.
func standTree(t *testing.T, c standCase) impl.Tree {
	t.Helper()
	x := turnedTree()
	c.change(&x)
	list := opsOf(t, splitLines(c.list)...)
	if _, ok := modelBehind(turnedTree(), list); !ok || !impl.TreeOk(x) {
		t.Fatalf("%s: the list, or the tree, is none", c.why)
	}
	if _, ok := modelBehind(x, list); ok != c.done {
		t.Fatalf("%s: all of it can be done is %v", c.why, ok)
	}
	return x
}

func TestKeepTakeOfATreeOnWhichAListCanStandOrNot(t *testing.T) {
	for _, c := range standCases {
		x := standTree(t, c)
		k := changedKeep(restingKeep(t), func(k *keep) { k.List = opsOf(t, splitLines(c.list)...) })
		got := wantEnd(t, k, treeMsg(1, 3, x), false)
		if c.stands && !impl.TreeSame(got.Base, x) || !c.stands && !equalKeeps(got, k) {
			t.Errorf("%s: %v", c.why, got)
		}
	}
}

// The tree that was is the one in the middle then, not Base, of which these lists could not be done, or which has other texts.
func TestKeepTakeOfAVerdictOnWhichAListCanStandOrNot(t *testing.T) {
	for _, c := range standCases {
		for _, shelf := range []int{0, 3, 4} {
			x := standTree(t, c)
			k := withShelf(changedKeep(waitingKeep(t), func(k *keep) {
				// What was sent makes turnedTree of another tree, but for Vers.
				k.Base.Objs[2].Text, k.Base.Objs[1].Text = "", "old"
				k.Base.Objs[31] = impl.Obj{}
				k.Base.Objs[0].Kids = k.Base.Objs[0].Kids[:1]
				k.Sent = opsOf(t, "text 2 =one1", "text 1 =", "dir 31 0 e")
				k.List = opsOf(t, splitLines(c.list)...)
			}), shelf)
			m := verdictMsg(1, 3, impl.ShopDone, x)
			if !c.stands && shelf == 4 {
				wantStays(t, k, m)
				continue
			}
			got := wantEnd(t, k, m, true)
			if !impl.TreeSame(got.Base, x) || got.Waits || len(got.Sent) != 0 {
				t.Errorf("%s: %v", c.why, got)
			}
			if c.stands && (len(got.Shelf) != shelf || !slices.Equal(got.List, k.List)) {
				t.Errorf("%s, with %d on the shelf: %v", c.why, shelf, got)
			}
			if !c.stands && (len(got.List) != 0 || len(got.Shelf) != shelf+1 || !slices.Equal(got.Shelf[shelf], k.List)) {
				t.Errorf("%s, with %d on the shelf: %v", c.why, shelf, got)
			}
		}
	}
}

func TestKeepTakeOfAVerdictWhileItDoesNotWait(t *testing.T) {
	for code := range 3 {
		for _, list := range [][]op{nil, plainList(t)} {
			k := changedKeep(restingKeep(t), func(k *keep) { k.List = list })
			wantStays(t, k, verdictMsg(1, 3, code, k.Base))
			wantStays(t, k, verdictMsg(1, 3, code, stillFine(t, k)))
		}
	}
}

// Each code, with and without something done since, and each shelf.
func TestKeepTakeOfEachVerdict(t *testing.T) {
	for _, since := range [][]op{nil, waitingKeep(t).List} {
		for shelf := range impl.KeepShelf + 1 {
			k := withShelf(changedKeep(waitingKeep(t), func(k *keep) { k.List = since }), shelf)
			done := wantEnd(t, k, verdictMsg(1, 3, impl.ShopDone, stillFine(t, k)), true)
			if done.Waits || len(done.Shelf) != shelf || !slices.Equal(done.List, since) || done.Seq != 3 {
				t.Errorf("%d on the shelf, done: %v", shelf, done)
			}
			for _, code := range []int{impl.ShopClash, impl.ShopOld} {
				m := verdictMsg(1, 3, code, behind(t, k.Base, "text 2 =no"))
				if shelf == impl.KeepShelf {
					wantStays(t, k, m)
					continue
				}
				got := wantEnd(t, k, m, true)
				if got.Waits || len(got.List)+len(got.Sent) != 0 || !impl.TreeSame(got.Base, m.Tree) || got.Seq != 3 {
					t.Errorf("%d on the shelf, code %d: %v", shelf, code, got)
				}
				want := append(slices.Clone(k.Sent), since...)
				if len(got.Shelf) != shelf+1 || !slices.Equal(got.Shelf[shelf], want) {
					t.Errorf("%d on the shelf, code %d: the shelf is %v", shelf, code, got.Shelf)
				}
			}
		}
	}
}

// With another code than ShopDone all is lost, though it could stand on the tree, and even be seen in it.
func TestKeepTakeOfAClashOfWhatCouldStand(t *testing.T) {
	k := withShelf(waitingKeep(t), 0)
	for _, x := range []impl.Tree{k.Base, cameIn(t, k, ""), impl.KeepView(k)} {
		got := wantEnd(t, k, verdictMsg(1, 3, impl.ShopClash, x), true)
		if len(got.Shelf) != 1 || len(got.Shelf[0]) != 7 || !impl.TreeSame(impl.KeepView(got), x) {
			t.Errorf("%v", got)
		}
	}
}

// A shelf that is full holds a client up; it goes on once a list is cleared, and nothing is lost meanwhile.
func TestKeepTakeWithAFullShelf(t *testing.T) {
	k := withShelf(waitingKeep(t), impl.KeepShelf)
	clash := verdictMsg(1, 3, impl.ShopClash, behind(t, k.Base, "text 2 =no"))
	wantStays(t, k, clash)
	k = wantDo(t, k, opsOf(t, "text 8 =more")[0], impl.ActFine)
	wantStays(t, k, clash)
	if again, out := wantSend(t, k); !equalKeeps(again, k) || !impl.LogSame(out[0].Log, plainLog(t)) {
		t.Errorf("%v sends %v", again, out)
	}
	k = wantEnd(t, wantCleared(t, k, 2), clash, true)
	if len(k.Shelf) != 4 || len(k.Shelf[3]) != 8 || k.Waits {
		t.Errorf("%v", k)
	}
	// With nothing lost, a full shelf does not matter.
	full := withShelf(changedKeep(waitingKeep(t), func(k *keep) { k.List = nil }), 4)
	if got := wantEnd(t, full, verdictMsg(1, 3, impl.ShopDone, impl.TreeOpen()), true); len(got.Shelf) != 4 {
		t.Errorf("%v", got)
	}
}

func TestKeepTakeOfMost(t *testing.T) {
	k := keep{Who: 1, Seq: impl.LogSeq, Base: turnedTree(), Waits: true, Sent: textsOf(60), List: textsOf(60)}
	for _, code := range []int{impl.ShopClash, impl.ShopOld} {
		got := wantEnd(t, k, verdictMsg(1, impl.LogSeq, code, turnedTree()), true)
		if len(got.Shelf) != 1 || len(got.Shelf[0]) != 2*impl.ActMost {
			t.Errorf("%v", got)
		}
	}
	if got := wantEnd(t, k, verdictMsg(1, impl.LogSeq, impl.ShopDone, stillFine(t, k)), true); len(got.List) != 60 {
		t.Errorf("%v", got)
	}
	if got := wantEnd(t, k, verdictMsg(1, impl.LogSeq, impl.ShopDone, turnedTree()), true); len(got.Shelf[0]) != 60 {
		t.Errorf("%v", got)
	}
}

// What was done while a log was on its way goes with the next one, if the first one came in.
func TestKeepOfWhatWasDoneWhileALogWasOnItsWay(t *testing.T) {
	for _, others := range []string{"", "dir 20 0 far", "text 1 =other"} {
		k := keep{Who: 2, Base: turnedTree()}
		k = wantDo(t, k, opsOf(t, "file 8 9 c")[0], impl.ActFine)
		k, out := wantSend(t, k)
		k = wantDo(t, k, opsOf(t, "text 8 =late")[0], impl.ActFine)
		k = wantDo(t, k, opsOf(t, "move 2 9 b 31 b")[0], impl.ActFine)
		s, back, _ := impl.MsgServe(impl.Shop{Tree: behind(t, turnedTree(), others)}, out[0])
		k = wantEnd(t, k, back[0], true)
		wantStays(t, k, back[0])
		k, out = wantSend(t, k)
		s, back, came := impl.MsgServe(s, out[0])
		wantEnd(t, k, back[0], true)
		if !came || s.Tree.Objs[8].Text != "late" || impl.TreePath(s.Tree, 2) != "/e/b" {
			t.Errorf("behind %q: %v", others, s.Tree)
		}
	}
}

// Promise 8, of drawn clients and messages.
func TestKeepNothingIsLost(t *testing.T) {
	seen := map[string]int{}
	dice := keepDice{slimDice{actDice: 800}}
	for range 2500 {
		k := dice.keep()
		wantKeepOkOrNot(t, "drawn", k, true)
		m := dice.message(t, k)
		got, end := wantTook(t, k, m)
		countTook(seen, k, m, got, end)
	}
	for _, what := range tookWays {
		if seen[what] < 20 {
			t.Errorf("%s: %d times only", what, seen[what])
		}
	}
}

var tookWays = []string{
	"not ok", "another client", "an earlier Seq", "a later Seq", "fetch", "log", "tree while it waits", "verdict while it does not",
	"tree, stands", "tree, stands not", "done, stands", "done, stands not", "done, full", "clash", "clash, full", "old", "old, full",
}

// countTook names in which way a message came.
func countTook(seen map[string]int, k keep, m msg, got keep, end bool) {
	kinds := []string{"fetch", "tree", "log", "verdict"}
	switch {
	case !modelMsgOk(m):
		seen["not ok"]++
	case m.Who != k.Who:
		seen["another client"]++
	case m.Seq < k.Seq:
		seen["an earlier Seq"]++
	case m.Seq > k.Seq:
		seen["a later Seq"]++
	case m.Kind == impl.MsgTree && k.Waits:
		seen["tree while it waits"]++
	case m.Kind == impl.MsgVerdict && !k.Waits:
		seen["verdict while it does not"]++
	case m.Kind == impl.MsgTree || m.Kind == impl.MsgVerdict:
		seen[tookName(k, m, got, end)]++
	default:
		seen[kinds[m.Kind-1]]++
	}
}

func tookName(k keep, m msg, got keep, end bool) string {
	name := "tree"
	if m.Kind == impl.MsgVerdict {
		name = []string{"done", "clash", "old"}[m.Code]
	}
	stands := ""
	if middle, _, _ := modelTrees(k); m.Code == impl.ShopDone && len(k.List) > 0 {
		stands = ", stands"
		if !modelStands(k.List, middle, m.Tree) {
			stands = ", stands not"
		}
	}
	if m.Kind == impl.MsgVerdict && !end {
		return name + ", full"
	}
	return name + stands
}

// Promise 8, of drawn clients that do, send and clear something.
func TestKeepStaysOk(t *testing.T) {
	dice := keepDice{slimDice{actDice: 850}}
	seen := map[string]int{}
	for range 800 {
		k := dice.keep()
		for _, o := range []op{dice.next(impl.KeepView(k)), dice.op(impl.KeepView(k)), {}} {
			_, code := modelKeepDo(k, o)
			wantDo(t, k, o, code)
			seen["code "+strconv.Itoa(code)]++
		}
		got, out := wantSend(t, k)
		switch {
		case k.Waits:
			seen["the same log"]++
		case out[0].Kind == impl.MsgFetch:
			seen["a fetch"]++
		case len(got.Sent) < len(k.List):
			seen["a shorter log"]++
		default:
			seen["a log"]++
		}
		for i := -1; i <= impl.KeepShelf; i++ {
			wantCleared(t, k, i)
		}
	}
	ways := []string{"the same log", "a fetch", "a shorter log", "a log"}
	for code := range impl.ActForm + 1 {
		ways = append(ways, "code "+strconv.Itoa(code))
	}
	for _, what := range ways {
		if seen[what] < 5 {
			t.Errorf("%s: %d times only", what, seen[what])
		}
	}
}

// Promise 8, of drawn plays with the server: what is on its way is lost, comes twice, late and crossed.
func TestKeepLongPlays(t *testing.T) {
	ways := map[string]int{}
	for play := range 30 {
		p := &keepPlay{t: t, dice: keepDice{slimDice{actDice: actDice(900 + play)}}, shop: impl.ShopOpen(), ways: ways}
		for who := range impl.LogWho {
			p.keeps = append(p.keeps, impl.KeepOpen(who))
		}
		for range 400 {
			p.step()
		}
		p.wantAllToldOnce()
	}
	for _, way := range []string{"done", "clash", "tree", "full", "came in"} {
		if ways[way] < 20 {
			t.Errorf("%s: %d times only", way, ways[way])
		}
	}
}

// keepPlay is a server, clients and messages, and what was told of each log.
type keepPlay struct {
	t     *testing.T
	dice  keepDice
	shop  impl.Shop
	keeps []keep
	net   []msg
	came  []owner
	told  []done
	ways  map[string]int
}

func (p *keepPlay) step() {
	who := p.dice.below(impl.LogWho)
	k := &p.keeps[who]
	switch n := p.dice.below(30); {
	case n < 9:
		o := p.dice.next(impl.KeepView(*k))
		_, code := modelKeepDo(*k, o)
		*k = wantDo(p.t, *k, o, code)
		p.dice.last = o.Id
	case n < 15:
		var out []msg
		*k, out = wantSend(p.t, *k)
		p.net = append(p.net, out...)
	case n < 16 && p.dice.below(6) == 0:
		*k = wantCleared(p.t, *k, p.dice.below(impl.KeepShelf))
	case len(p.net) > 0:
		p.move(p.dice.below(min(len(p.net), 6)))
	}
}

// move lets a message come; now and then it is lost, or comes once more later.
func (p *keepPlay) move(at int) {
	m := p.net[at]
	if p.dice.below(5) > 0 {
		p.net = slices.Delete(slices.Clone(p.net), at, at+1)
	}
	if p.dice.below(6) == 0 {
		return
	}
	if m.Kind == impl.MsgFetch || m.Kind == impl.MsgLog {
		s, back, came := impl.MsgServe(p.shop, m)
		p.shop, p.net = s, append(p.net, back...)
		if came {
			p.came = append(p.came, owner{m.Who, m.Seq})
			p.ways["came in"]++
		}
		return
	}
	p.take(m)
}

func (p *keepPlay) take(m msg) {
	k := &p.keeps[m.Who]
	was := *k
	got, end := wantTook(p.t, was, m)
	*k = got
	if end {
		p.told = append(p.told, lastLog(m.Who, m.Seq, m.Code))
		p.ways[[]string{"done", "clash", "old"}[m.Code]]++
	} else if m.Kind == impl.MsgVerdict && m.Seq == was.Seq && was.Waits {
		p.ways["full"]++
	} else if !equalKeeps(got, was) {
		p.ways["tree"]++
	}
}

// wantAllToldOnce asks that nobody was told twice of a log, and that what he was told is so.
func (p *keepPlay) wantAllToldOnce() {
	p.t.Helper()
	told := map[owner]bool{}
	for _, d := range p.told {
		o := owner{d.Who, d.Seq}
		if told[o] {
			p.t.Errorf("%v was told twice", o)
		}
		told[o] = true
		if slices.Contains(p.came, o) != (d.Code == impl.ShopDone) {
			p.t.Errorf("%v was told %d", o, d.Code)
		}
	}
	for _, k := range p.keeps {
		if k.Waits && told[owner{k.Who, k.Seq}] {
			p.t.Errorf("%d waits for %d, of which it was told", k.Who, k.Seq)
		}
	}
}
