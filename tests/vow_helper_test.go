package tests

import (
	"fmt"
	"slices"
	"testing"

	"loop.example/shieling/impl"
)

// vowAnswers is what VowBase, VowWay, VowTrees and VowAll answer.
type vowAnswers struct {
	base, way, trees, all bool
}

var (
	allVows = vowAnswers{true, true, true, true}
	noVows  = vowAnswers{}
)

func vowsOf(w world) vowAnswers {
	return vowAnswers{impl.VowBase(w), impl.VowWay(w), impl.VowTrees(w), impl.VowAll(w)}
}

// modelHad is all trees that the server had, with what is done told by actModel.
func modelHad(past []impl.Log) []impl.Tree {
	had := []impl.Tree{impl.TreeOpen()}
	for _, l := range past {
		x, ok := modelBehind(had[len(had)-1], l.List)
		if !ok {
			return had
		}
		had = append(had, x)
	}
	return had
}

func isAmong(trees []impl.Tree, x impl.Tree) bool {
	return slices.ContainsFunc(trees, func(one impl.Tree) bool { return sameObjs(one, x) })
}

// modelVows is what chapter 11 says, client by client and message by message.
func modelVows(w world) vowAnswers {
	if !modelWorldOk(w) {
		return noVows
	}
	had, a := modelHad(w.Past), vowAnswers{base: true, way: true, trees: true}
	for _, k := range w.Keeps {
		a.base = a.base && isAmong(had, k.Base)
	}
	for _, m := range w.Net {
		switch m.Kind {
		case impl.MsgLog:
			a.way = a.way && modelWasSent(w, m)
		case impl.MsgTree, impl.MsgVerdict:
			a.trees = a.trees && isAmong(had, m.Tree)
		}
	}
	a.all = a.base && a.way && a.trees && modelTold(w) == allTold
	return a
}

// modelWasSent takes a MsgLog on its way in an ok world.
func modelWasSent(w world, m msg) bool {
	k := w.Keeps[m.Who]
	if m.Seq != k.Seq {
		return m.Seq < k.Seq
	}
	if k.Waits {
		_, out := modelKeepSend(k)
		return equalMsgs(m, out[0])
	}
	return len(w.Told) == 60 || modelHas(w.Past, m.Who, m.Seq) || modelHasTold(w.Told, m.Who, m.Seq)
}

func toldAs(who int, seq int, code int) told { return told{Who: who, Seq: seq, Code: code} }

func modelHasTold(list []told, who int, seq int) bool {
	return slices.ContainsFunc(list, func(x told) bool { return x.Who == who && x.Seq == seq })
}

// wantVows asks what is so of a world; it must be as it was behind that.
func wantVows(t *testing.T, why string, w world, want vowAnswers) {
	t.Helper()
	was := copyWorld(w)
	if got := vowsOf(w); got != want || modelVows(was) != want {
		t.Errorf("%s: base, way, trees, all are %v, not %v (by the model %v)", why, got, want, modelVows(was))
	}
	if parts := partsApart(w, was); len(parts) > 0 {
		t.Errorf("%s: of the world that was handed in are others: %v", why, parts)
	}
}

// wantOkVows is wantVows of a world that is ok, in which all is so that chapter 10 asks, or not: VowAll asks for that, too.
func wantOkVows(t *testing.T, why string, w world, want vowAnswers) {
	t.Helper()
	if !impl.WorldOk(w) {
		t.Fatalf("%s: the world is not ok", why)
	}
	want.all = want.base && want.way && want.trees && modelTold(w) == allTold
	wantVows(t, why, w, want)
}

func wantBase(t *testing.T, why string, w world, base bool) {
	t.Helper()
	wantOkVows(t, why, w, vowAnswers{base: base, way: true, trees: true})
}

func wantWay(t *testing.T, why string, w world, way bool) {
	t.Helper()
	wantOkVows(t, why, w, vowAnswers{base: true, way: way, trees: true})
}

func wantTrees(t *testing.T, why string, w world, trees bool) {
	t.Helper()
	wantOkVows(t, why, w, vowAnswers{base: true, way: true, trees: trees})
}

// plainTrees is the trees that the server of toldWorld had, from TreeOpen on.
func plainTrees(t *testing.T) []impl.Tree {
	t.Helper()
	_, trees := logsOf(t, plainSteps...)
	return trees
}

// bareWorld is toldWorld with nothing on its way, and of clients that did nothing.
func bareWorld(t *testing.T) world {
	t.Helper()
	return bared(toldWorld(t))
}

func bared(w world) world {
	return changedWorld(w, func(w *world) { w.Keeps, w.Net = impl.WorldOpen().Keeps, nil })
}

// vowWorld is a world of which all vows are true, with something in each of its parts: 2.4 came in, and 1.4 did not yet.
func vowWorld(t *testing.T) world {
	t.Helper()
	trees := plainTrees(t)
	w := bareWorld(t)
	w.Keeps[0] = keep{Who: 0, Seq: 4, Base: trees[3], List: opsOf(t, "dir 9 0 x", "file 10 9 y"), Shelf: [][]op{opsOf(t, "text 2 =lost")}}
	w.Keeps[1] = keep{Who: 1, Seq: 4, Base: trees[5], Waits: true, Sent: opsOf(t, "file 9 7 k", "text 5 =mine"), List: opsOf(t, "text 9 =l")}
	w.Keeps[2] = keep{Who: 2, Seq: 4, Base: trees[4], List: opsOf(t, "gone 8 7 e"), Shelf: [][]op{opsOf(t, "text 5 =x"), nil}}
	w.Net = []msg{
		logMsg(copyLog(w.Past[3])),
		treeMsg(0, 4, trees[2]),
		sentMsg(w.Keeps[1]),
		verdictMsg(1, 4, impl.ShopClash, trees[5]),
		fetchMsg(2, 7),
		logMsg(copyLog(w.Past[0])),
		verdictMsg(0, 2, impl.ShopDone, trees[0]),
	}
	return w
}

// sentMsg is what a client sent that waits.
func sentMsg(k keep) msg { return logMsg(impl.LogMake(k.Base, k.Who, k.Seq, k.Sent)) }

// wantHad asks of a world's Past whether the server had a tree: each client begins with it in turn, and it is on its way at each place.
func wantHad(t *testing.T, why string, w world, x impl.Tree, had bool) {
	t.Helper()
	w = bared(w)
	for who := range w.Keeps {
		began := changedWorld(w, func(w *world) { w.Keeps[who].Base = copyTree(x) })
		wantBase(t, fmt.Sprint(why, ", client ", who), began, had)
	}
	others := []msg{fetchMsg(0, 1), treeMsg(1, 2, impl.TreeOpen()), verdictMsg(2, 3, impl.ShopOld, impl.TreeOpen()), fetchMsg(1, 1)}
	for i, m := range carriersOf(x) {
		at := []int{0, 2, len(others)}[i%3]
		sent := changedWorld(w, func(w *world) { w.Net = slices.Insert(copiesOf(others, copyMsg), at, m) })
		wantTrees(t, fmt.Sprint(why, ", ", modelText(m), " at ", at), sent, had)
	}
}

// carriersOf is messages with that tree, to each client: three of each kind and code, so that these can come first, in the middle and last.
func carriersOf(x impl.Tree) []msg {
	var msgs []msg
	for who := range impl.LogWho {
		msgs = append(msgs, treeMsg(who, 1+who, copyTree(x)))
	}
	for code := range 3 {
		for who := range impl.LogWho {
			msgs = append(msgs, verdictMsg(who, impl.LogSeq-who, code, copyTree(x)))
		}
	}
	return msgs
}
