package tests

import (
	"slices"
	"testing"

	"loop.example/shieling/impl"
)

type keep = impl.Keep

// waitingKeep waits for plainLog; what was done since names what that makes and moves, and something new.
func waitingKeep(t *testing.T) keep {
	t.Helper()
	return keep{
		Who: 1, Seq: 3, Base: turnedTree(), Waits: true,
		Sent:  plainList(t),
		List:  opsOf(t, "text 8 =mine", "dir 10 31 q", "move 1 31 b 10 z"),
		Shelf: [][]op{opsOf(t, "gone 5 9 d", "text 2 =lost"), opsOf(t, "file 8 0 a")},
	}
}

// restingKeep waits for nothing; it has plainList yet to send.
func restingKeep(t *testing.T) keep {
	t.Helper()
	return keep{
		Who: 1, Seq: 3, Base: turnedTree(),
		List:  plainList(t),
		Shelf: [][]op{opsOf(t, "gone 5 9 d", "text 2 =lost"), opsOf(t, "file 8 0 a")},
	}
}

func changedKeep(k keep, change func(k *keep)) keep {
	k = copyKeep(k)
	change(&k)
	return k
}

// withShelf puts so many lists on the shelf.
func withShelf(k keep, many int) keep {
	k = copyKeep(k)
	k.Shelf = nil
	for i := range many {
		k.Shelf = append(k.Shelf, []op{{Kind: impl.OpDir, Id: 20 + i, Name: "kept"}})
	}
	return k
}

func copyKeep(k keep) keep {
	k.Base, k.Sent, k.List = copyTree(k.Base), slices.Clone(k.Sent), slices.Clone(k.List)
	k.Shelf = slices.Clone(k.Shelf)
	for i := range k.Shelf {
		k.Shelf[i] = slices.Clone(k.Shelf[i])
	}
	return k
}

func equalKeeps(a keep, b keep) bool {
	return a.Who == b.Who && a.Seq == b.Seq && a.Waits == b.Waits &&
		slices.EqualFunc(a.Base.Objs, b.Base.Objs, sameObj) &&
		slices.Equal(a.Sent, b.Sent) && slices.Equal(a.List, b.List) &&
		slices.EqualFunc(a.Shelf, b.Shelf, slices.Equal)
}

// modelBehind is a tree behind all of a list, with what is done told by actModel; false, if that can not be done.
func modelBehind(x impl.Tree, list []op) (impl.Tree, bool) {
	if !impl.TreeOk(x) || len(list) > 60 || !allOk(list) {
		return impl.Tree{}, false
	}
	m := modelOf(x)
	for _, o := range list {
		if m.do(o) != impl.ActFine {
			return impl.Tree{}, false
		}
	}
	return m.tree(), true
}

func allOk(list []op) bool {
	return !slices.ContainsFunc(list, func(o op) bool { return !impl.OpOk(o) })
}

// modelTrees is the tree in the middle and the one that is seen; false, if there are none.
func modelTrees(k keep) (impl.Tree, impl.Tree, bool) {
	middle, ok := modelBehind(k.Base, k.Sent)
	if !ok {
		return impl.Tree{}, impl.Tree{}, false
	}
	view, ok := modelBehind(middle, k.List)
	return middle, view, ok
}

// modelKeepOk is what chapter 8 says, fault by fault.
func modelKeepOk(k keep) bool {
	switch {
	case k.Who < 0 || k.Who > 2, k.Seq < 0 || k.Seq > 1000:
		return false
	case k.Waits && len(k.Sent) == 0, !k.Waits && len(k.Sent) > 0, k.Waits && k.Seq == 0:
		return false
	case len(k.Shelf) > 4:
		return false
	}
	for _, list := range k.Shelf {
		if len(list) > 120 || !allOk(list) {
			return false
		}
	}
	_, _, ok := modelTrees(k)
	return ok
}

// modelStands takes a list and two trees that are ok.
func modelStands(list []op, was impl.Tree, now impl.Tree) bool {
	for id := range namedIn(list) {
		a, b := was.Objs[id], now.Objs[id]
		a.Ver, b.Ver = 0, 0
		if !sameObj(a, b) {
			return false
		}
	}
	_, ok := modelBehind(now, list)
	return ok
}

func modelKeepDo(k keep, o op) (keep, int) {
	_, view, ok := modelTrees(k)
	if !ok || len(k.List) >= 60 || !impl.OpOk(o) {
		return k, impl.ActForm
	}
	code := modelOf(view).do(o)
	if code == impl.ActFine {
		k.List = slices.Concat(k.List, []op{o})
	}
	return k, code
}

func modelKeepSend(k keep) (keep, []msg) {
	if !k.Waits && k.Seq == 1000 {
		return k, nil
	}
	if !k.Waits {
		k.Seq++
		k.Sent, k.List = impl.Slim(k.List), nil
		k.Waits = len(k.Sent) > 0
	}
	if !k.Waits {
		return k, []msg{fetchMsg(k.Who, k.Seq)}
	}
	l := impl.Log{Who: k.Who, Seq: k.Seq, List: k.Sent}
	for _, id := range numbersOf(k.Sent) {
		l.Bases = append(l.Bases, base{Id: id, Ver: k.Base.Objs[id].Ver})
	}
	return k, []msg{logMsg(l)}
}

func modelKeepTake(k keep, m msg) (keep, bool) {
	comes := impl.MsgTree
	if k.Waits {
		comes = impl.MsgVerdict
	}
	if !modelMsgOk(m) || m.Who != k.Who || m.Seq != k.Seq || m.Kind != comes {
		return k, false
	}
	middle, _, _ := modelTrees(k)
	stands := modelStands(k.List, middle, m.Tree)
	if !k.Waits {
		if stands {
			k.Base = m.Tree
		}
		return k, false
	}
	var lost []op
	if m.Code != impl.ShopDone {
		lost = slices.Concat(k.Sent, k.List)
	} else if !stands {
		lost = k.List
	}
	if len(lost) > 0 && len(k.Shelf) == 4 {
		return k, false
	}
	if len(lost) > 0 {
		k.Shelf, k.List = append(slices.Clone(k.Shelf), lost), nil
	}
	k.Base, k.Sent, k.Waits = m.Tree, nil, false
	return k, true
}

func modelKeepClear(k keep, i int) keep {
	var left [][]op
	for at, list := range k.Shelf {
		if at != i {
			left = append(left, list)
		}
	}
	k.Shelf = left
	return k
}

// wantKeep asks for a client that is ok, just that one, and for the other one, that was handed in, to be as it was.
func wantKeep(t *testing.T, what string, got keep, want keep, given keep, was keep) {
	t.Helper()
	if !equalKeeps(got, want) {
		t.Fatalf("%s: %v, not %v", what, got, want)
	}
	if !impl.KeepOk(got) || !modelKeepOk(got) {
		t.Fatalf("%s: leaves a client that is not ok: %v", what, got)
	}
	if !equalKeeps(given, was) {
		t.Fatalf("%s: the client that was handed in is another one: %v, not %v", what, given, was)
	}
}

// wantView asks what an ok client sees.
func wantView(t *testing.T, k keep) impl.Tree {
	t.Helper()
	was := copyKeep(k)
	_, want, ok := modelTrees(k)
	if got := impl.KeepOk(k); !got || !ok {
		t.Fatalf("%v: KeepOk = %v", k, got)
	}
	got := impl.KeepView(k)
	if !impl.TreeSame(got, want) {
		t.Fatalf("%v sees %v, not %v", k, got, want)
	}
	if !equalKeeps(k, was) {
		t.Fatalf("KeepView leaves another client: %v, not %v", k, was)
	}
	return got
}

// wantDo asks for all of KeepDo of an ok client, and that he sees what he did.
func wantDo(t *testing.T, k keep, o op, code int) keep {
	t.Helper()
	was := copyKeep(k)
	want, _ := modelKeepDo(k, o)
	got, c := impl.KeepDo(k, o)
	if c != code {
		t.Fatalf("%q of %v ends with %d, not %d", lineText(o), k, c, code)
	}
	wantKeep(t, lineText(o), got, want, k, was)
	before := wantView(t, k)
	after := wantView(t, got)
	if code != impl.ActFine {
		if !impl.TreeSame(after, before) {
			t.Fatalf("%q: ends with %d, but another tree is seen", lineText(o), c)
		}
		return got
	}
	if seen, c := impl.ActDo(before, o); c != impl.ActFine || !impl.TreeSame(after, seen) {
		t.Fatalf("%q: what is seen is not ActDo's tree", lineText(o))
	}
	return got
}

// wantSend asks for all of KeepSend of an ok client, and that he sees what he saw.
func wantSend(t *testing.T, k keep) (keep, []msg) {
	t.Helper()
	was := copyKeep(k)
	want, msgs := modelKeepSend(k)
	got, out := impl.KeepSend(k)
	if !slices.EqualFunc(out, msgs, equalMsgs) {
		t.Fatalf("KeepSend of %v: %v, not %v", k, out, msgs)
	}
	wantKeep(t, "KeepSend", got, want, k, was)
	before, after := wantView(t, k), wantView(t, got)
	if !impl.TreeLike(before, after) {
		t.Fatalf("KeepSend of %v: another tree is seen", k)
	}
	if slices.Equal(got.Sent, k.List) || k.Waits {
		if !impl.TreeSame(before, after) {
			t.Fatalf("KeepSend of %v: other Vers are seen, though nothing was made shorter", k)
		}
	}
	for _, m := range out {
		wantSentOf(t, got, m)
	}
	return got, out
}

// wantSentOf asks that what goes is what a client has that waits for it.
func wantSentOf(t *testing.T, k keep, m msg) {
	t.Helper()
	if !impl.MsgOk(m) || m.Who != k.Who || m.Seq != k.Seq {
		t.Fatalf("%v sends %v", k, m)
	}
	if !k.Waits {
		if m.Kind != impl.MsgFetch {
			t.Fatalf("%v, that does not wait, sends %v", k, m)
		}
		return
	}
	want := impl.LogMake(k.Base, k.Who, k.Seq, k.Sent)
	if m.Kind != impl.MsgLog || !impl.LogOk(m.Log) || !impl.LogSame(m.Log, want) {
		t.Fatalf("%v sends %v", k, m)
	}
}

// wantTook asks for all of KeepTake of an ok client and any message; what comes twice has no second effect.
func wantTook(t *testing.T, k keep, m msg) (keep, bool) {
	t.Helper()
	was, wasMsg := copyKeep(k), copyMsg(m)
	want, wantEnd := modelKeepTake(k, m)
	got, end := impl.KeepTake(k, m)
	if end != wantEnd {
		t.Fatalf("%v takes %v: it has come to its end is %v", k, m, end)
	}
	wantKeep(t, "KeepTake", got, want, k, was)
	if !equalMsgs(m, wasMsg) {
		t.Fatalf("KeepTake leaves another message: %v, not %v", m, wasMsg)
	}
	wantView(t, got)
	wantNothingLost(t, k, m, got, end)
	if again, end := impl.KeepTake(got, m); end || !equalKeeps(again, got) {
		t.Fatalf("%v comes twice: %v, %v, not %v", m, again, end, got)
	}
	return got, end
}

// wantEnd is wantTook of a message of which it is known whether a log comes to its end by it.
func wantEnd(t *testing.T, k keep, m msg, end bool) keep {
	t.Helper()
	got, e := wantTook(t, k, m)
	if e != end {
		t.Errorf("%v takes %v: it has come to its end is %v", k, m, e)
	}
	return got
}

// wantStays is wantEnd of a message by which nothing comes.
func wantStays(t *testing.T, k keep, m msg) {
	t.Helper()
	if got := wantEnd(t, k, m, false); !equalKeeps(got, k) {
		t.Errorf("%v takes %v: it is another one, %v", k, m, got)
	}
}

// wantNothingLost asks for promise 8: each thing is as often in Sent, in List and on the shelf as it was, but for what came in.
func wantNothingLost(t *testing.T, k keep, m msg, got keep, end bool) {
	t.Helper()
	had, has := thingsOf(k), thingsOf(got)
	if end && m.Code == impl.ShopDone {
		for _, o := range k.Sent {
			had[o]--
		}
	}
	for o, many := range had {
		if has[o] != many {
			t.Fatalf("%v takes %v: %q was there %d times, and is %d times", k, m, lineText(o), many, has[o])
		}
	}
	for o, many := range has {
		if had[o] != many {
			t.Fatalf("%v takes %v: %q was there %d times, and is %d times", k, m, lineText(o), had[o], many)
		}
	}
	if len(got.Shelf) < len(k.Shelf) || !slices.EqualFunc(got.Shelf[:len(k.Shelf)], k.Shelf, slices.Equal) {
		t.Fatalf("%v takes %v: what was on the shelf is %v", k, m, got.Shelf)
	}
}

// thingsOf is how often each thing is in Sent, in List and on the shelf.
func thingsOf(k keep) map[op]int {
	things := map[op]int{}
	for _, list := range append([][]op{k.Sent, k.List}, k.Shelf...) {
		for _, o := range list {
			things[o]++
		}
	}
	return things
}

func wantCleared(t *testing.T, k keep, i int) keep {
	t.Helper()
	was := copyKeep(k)
	got := impl.KeepClear(k, i)
	wantKeep(t, "KeepClear", got, modelKeepClear(k, i), k, was)
	if !impl.TreeSame(wantView(t, got), wantView(t, k)) {
		t.Fatalf("KeepClear of %v: another tree is seen", k)
	}
	return got
}

func isNoKeep(k keep) bool { return equalKeeps(k, keep{}) }

// wantNoKeep asks that a client is not ok, and that all others give nothing of it.
func wantNoKeep(t *testing.T, why string, k keep) {
	t.Helper()
	was := copyKeep(k)
	if impl.KeepOk(k) || modelKeepOk(k) {
		t.Errorf("%s: is ok", why)
	}
	if x := impl.KeepView(k); len(x.Objs) != 0 {
		t.Errorf("%s: KeepView = %v", why, x)
	}
	for _, o := range []op{{Kind: impl.OpText, Id: 2, Text: "x"}, {Kind: impl.OpDir, Id: 3, Name: "x"}, {}} {
		if got, code := impl.KeepDo(k, o); !isNoKeep(got) || code != 0 {
			t.Errorf("%s: KeepDo of %v = %v, %d", why, o, got, code)
		}
	}
	if got, out := impl.KeepSend(k); !isNoKeep(got) || len(out) != 0 {
		t.Errorf("%s: KeepSend = %v, %v", why, got, out)
	}
	msgs := []msg{{}, fetchMsg(k.Who, k.Seq), treeMsg(k.Who, k.Seq, turnedTree())}
	for code := range 3 {
		msgs = append(msgs, verdictMsg(k.Who, k.Seq, code, turnedTree()))
	}
	for _, m := range msgs {
		if got, end := impl.KeepTake(k, m); !isNoKeep(got) || end {
			t.Errorf("%s: KeepTake of %v = %v, %v", why, m, got, end)
		}
	}
	for i := -1; i <= len(k.Shelf) && i < 6; i++ {
		if got := impl.KeepClear(k, i); !isNoKeep(got) {
			t.Errorf("%s: KeepClear of %d = %v", why, i, got)
		}
	}
	if !equalKeeps(k, was) {
		t.Errorf("%s: the client is another one", why)
	}
}

// wantKeepOkOrNot is for a client of which it is known whether it is ok.
func wantKeepOkOrNot(t *testing.T, why string, k keep, ok bool) {
	t.Helper()
	if !ok {
		wantNoKeep(t, why, k)
		return
	}
	if !impl.KeepOk(k) {
		t.Fatalf("%s: is not ok", why)
	}
	wantView(t, k)
	wantCleared(t, k, 0)
}

// keepDice draws clients that are ok, and messages to them.
type keepDice struct {
	slimDice
}

func (d *keepDice) keep() keep {
	_, x := d.list(impl.TreeOpen(), d.below(25))
	k := keep{Who: d.below(impl.LogWho), Seq: 1 + d.below(4), Base: x}
	middle := x
	if d.below(3) > 0 {
		k.Sent, middle = d.list(x, 1+d.below(6))
		k.Waits = len(k.Sent) > 0
	}
	if d.below(4) > 0 {
		k.List, _ = d.list(middle, 1+d.below(5))
	}
	for range min(impl.KeepShelf, d.below(impl.KeepShelf+3)) {
		list, _ := d.list(x, d.below(6))
		k.Shelf = append(k.Shelf, list)
	}
	return k
}

func (d *keepDice) message(t *testing.T, k keep) msg {
	t.Helper()
	who, seq := k.Who, k.Seq
	switch d.below(9) {
	case 0:
		who = (who + 1 + d.below(2)) % impl.LogWho
	case 1:
		seq--
	case 2:
		seq++
	}
	switch d.below(10) {
	case 0:
		return fetchMsg(who, seq)
	case 1:
		return logMsg(impl.LogMake(k.Base, who, seq, k.Sent))
	case 2, 3, 4:
		return treeMsg(who, seq, d.tree(t, k))
	case 5:
		return d.wrong(treeMsg(who, seq, d.tree(t, k)))
	}
	return verdictMsg(who, seq, max(0, d.below(5)-2), d.tree(t, k))
}

// wrong is a message of something that it must not have, or lacks.
func (d *keepDice) wrong(m msg) msg {
	m.Kind = impl.MsgTree + 2*d.below(2)
	switch d.below(4) {
	case 0:
		m.Tree.Objs = m.Tree.Objs[1:]
	case 1:
		m.Code = impl.ShopForm
	case 2:
		m.Log = impl.Log{Who: m.Who, Seq: m.Seq}
	case 3:
		m.Tree = impl.Tree{}
	}
	return m
}

// tree is one of the server: as the client has it, with what others did, or one that has nothing of it.
func (d *keepDice) tree(t *testing.T, k keep) impl.Tree {
	t.Helper()
	middle, _, ok := modelTrees(k)
	if !ok {
		t.Fatalf("%v is not ok", k)
	}
	switch d.below(6) {
	case 0:
		return copyTree(k.Base)
	case 1:
		_, x := d.list(impl.TreeOpen(), d.below(25))
		return x
	case 2, 3:
		_, x := d.list(middle, 1+d.below(4))
		return x
	case 4:
		_, x := d.list(k.Base, 1+d.below(4))
		return x
	}
	return middle
}
