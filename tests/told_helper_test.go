package tests

import (
	"fmt"
	"math"
	"slices"
	"testing"

	"loop.example/shieling/impl"
)

type told = impl.Told

// toldStep is what a client does of the tree behind all ahead, as lines, and the number under which that goes.
type toldStep struct {
	who, seq int
	lines    string
}

// logsOf makes logs that come in one behind the other; it gives the trees as well, from TreeOpen on, one more than logs.
func logsOf(t *testing.T, steps ...toldStep) ([]impl.Log, []impl.Tree) {
	t.Helper()
	var logs []impl.Log
	trees := []impl.Tree{impl.TreeOpen()}
	for _, s := range steps {
		x := trees[len(trees)-1]
		logs = append(logs, impl.LogMake(x, s.who, s.seq, opsOf(t, splitLines(s.lines)...)))
		trees = append(trees, behind(t, x, s.lines))
	}
	return logs, trees
}

// plainSteps lean each on what the one ahead turned: no other order of them can come in.
var plainSteps = []toldStep{
	{0, 1, "dir 1 0 a; file 5 1 b"},
	{1, 1, "text 5 =one"},
	{0, 2, "move 5 1 b 0 c"},
	{2, 4, "dir 7 1 d; dir 8 7 e"},
	{1, 3, "gone 8 7 e; text 5 =two"},
}

// busySteps are texts of one file, by all clients in turn.
func busySteps(many int) []toldStep {
	steps := []toldStep{{0, 1, "file 5 0 a"}}
	for at := 1; at < many; at++ {
		steps = append(steps, toldStep{at % impl.LogWho, 1 + at/impl.LogWho, "text 5 =t"})
	}
	return steps
}

// toldWorld is a world of which all that chapter 10 asks is true: 1.3 came in, but was not told.
func toldWorld(t *testing.T) world {
	t.Helper()
	w := pastWorld(t, plainSteps...)
	w.Told = []told{
		{Who: 0, Seq: 1, Code: impl.ShopDone}, {Who: 1, Seq: 1, Code: impl.ShopDone}, {Who: 1, Seq: 2, Code: impl.ShopClash},
		{Who: 0, Seq: 2, Code: impl.ShopDone}, {Who: 2, Seq: 3, Code: impl.ShopOld}, {Who: 2, Seq: 4, Code: impl.ShopDone},
	}
	return w
}

// pastWorld is a world in which all of these came in; its other parts are as in plainWorld.
func pastWorld(t *testing.T, steps ...toldStep) world {
	t.Helper()
	logs, trees := logsOf(t, steps...)
	w := plainWorld(t)
	w.Shop.Tree, w.Past, w.Told = trees[len(logs)], logs, nil
	return w
}

// modelFold is what chapter 10 says of ToldFold, with what comes in told by modelTry.
func modelFold(list []impl.Log, n int) (impl.Tree, bool) {
	x := impl.TreeOpen()
	for at := 0; at < n && at < len(list); at++ {
		if !impl.LogOk(list[at]) {
			return impl.Tree{}, false
		}
		behind, why := modelTry(x, list[at])
		if why != shopFine {
			return impl.Tree{}, false
		}
		x = behind
	}
	return x, true
}

func modelHas(list []impl.Log, who int, seq int) bool {
	return slices.ContainsFunc(list, func(l impl.Log) bool { return l.Who == who && l.Seq == seq })
}

// toldAnswers is what ToldTree, ToldOnce and ToldTrue answer.
type toldAnswers struct {
	tree, once, told bool
}

var (
	allTold  = toldAnswers{true, true, true}
	noneTold = toldAnswers{}
)

func toldOf(w world) toldAnswers {
	return toldAnswers{impl.ToldTree(w), impl.ToldOnce(w), impl.ToldTrue(w)}
}

// modelTold is what chapter 10 says of these three, pair by pair.
func modelTold(w world) toldAnswers {
	if !modelWorldOk(w) {
		return noneTold
	}
	x, ok := modelFold(w.Past, len(w.Past))
	a := toldAnswers{ok && sameObjs(x, w.Shop.Tree), true, true}
	for at, l := range w.Past {
		for _, ahead := range w.Past[:at] {
			a.once = a.once && (ahead.Who != l.Who || ahead.Seq < l.Seq)
		}
	}
	for _, x := range w.Told {
		in := modelHas(w.Past, x.Who, x.Seq)
		a.told = a.told && (x.Code == impl.ShopDone && in || x.Code != impl.ShopDone && !in)
	}
	return a
}

// wantFold asks for all of ToldFold; it gives the tree.
func wantFold(t *testing.T, why string, list []impl.Log, n int, ok bool) impl.Tree {
	t.Helper()
	was := copiesOf(list, copyLog)
	got, did := impl.ToldFold(list, n)
	want, could := modelFold(was, n)
	if did != ok || could != ok {
		t.Fatalf("%s: of %d of %d logs: %v, not %v", why, n, len(list), did, ok)
	}
	if !sameObjs(got, want) || ok != impl.TreeOk(got) {
		t.Fatalf("%s: of %d of %d logs: %v, not %v", why, n, len(list), got, want)
	}
	if !slices.EqualFunc(list, was, equalLogs) {
		t.Fatalf("%s: of %d of %d logs: the list that was handed in is another one", why, n, len(list))
	}
	return got
}

// wantFoldTo asks for ToldFold of any number of logs of which the one at a place is the first that can not come in; all can, if none is there.
func wantFoldTo(t *testing.T, why string, list []impl.Log, place int) {
	t.Helper()
	for n := -1; n <= len(list)+1; n++ {
		wantFold(t, why, list, n, min(n, len(list)) <= place)
	}
	wantFold(t, why, list, math.MinInt, true)
	wantFold(t, why, list, math.MaxInt, len(list) <= place)
}

func wantHas(t *testing.T, list []impl.Log, who int, seq int, has bool) {
	t.Helper()
	was := copiesOf(list, copyLog)
	if got := impl.ToldHas(list, who, seq); got != has || modelHas(list, who, seq) != has {
		t.Errorf("ToldHas of %d.%d among %s: %v, not %v", who, seq, ownersIn(list), got, has)
	}
	if !slices.EqualFunc(list, was, equalLogs) {
		t.Errorf("ToldHas of %d.%d: the list that was handed in is another one", who, seq)
	}
}

// ownersIn is whose logs these are, and their numbers.
func ownersIn(list []impl.Log) []string {
	var names []string
	for _, l := range list {
		names = append(names, fmt.Sprintf("%d.%d", l.Who, l.Seq))
	}
	return names
}

// wantTold asks what is so of a world; it must be as it was behind that.
func wantTold(t *testing.T, why string, w world, want toldAnswers) {
	t.Helper()
	was := copyWorld(w)
	if got := toldOf(w); got != want || modelTold(was) != want {
		t.Errorf("%s: tree, once, told are %v, not %v (by the model %v)", why, got, want, modelTold(was))
	}
	if parts := partsApart(w, was); len(parts) > 0 {
		t.Errorf("%s: of the world that was handed in are others: %v", why, parts)
	}
}

// wantOkTold is wantTold of a world that is ok.
func wantOkTold(t *testing.T, why string, w world, want toldAnswers) {
	t.Helper()
	if !impl.WorldOk(w) {
		t.Fatalf("%s: the world is not ok", why)
	}
	wantTold(t, why, w, want)
}
