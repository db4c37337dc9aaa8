package tests

import (
	"fmt"
	"math"
	"slices"
	"testing"

	"loop.example/shieling/impl"
)

func TestKeepOpen(t *testing.T) {
	for who := range impl.LogWho {
		k := impl.KeepOpen(who)
		if !equalKeeps(k, keep{Who: who, Base: impl.TreeOpen()}) || !impl.KeepOk(k) {
			t.Errorf("KeepOpen(%d) = %v", who, k)
		}
		if !impl.TreeSame(wantView(t, k), impl.TreeOpen()) {
			t.Errorf("%d sees more than the top", who)
		}
		scribble(k.Base)
		if again := impl.KeepOpen(who); !equalKeeps(again, keep{Who: who, Base: impl.TreeOpen()}) {
			t.Errorf("KeepOpen(%d) = %v, once more", who, again)
		}
	}
	for _, who := range []int{math.MinInt, -2, -1, impl.LogWho, impl.LogWho + 1, math.MaxInt} {
		if k := impl.KeepOpen(who); !isNoKeep(k) {
			t.Errorf("KeepOpen(%d) = %v", who, k)
		}
	}
	if impl.KeepShelf != 4 {
		t.Error(impl.KeepShelf)
	}
	wantNoKeep(t, "nothing", keep{})
}

func TestKeepOkOfWhoAndSeq(t *testing.T) {
	whos := []int{math.MinInt, -1, 0, 1, impl.LogWho - 1, impl.LogWho, math.MaxInt}
	seqs := []int{math.MinInt, -1, 0, 1, 2, impl.LogSeq - 1, impl.LogSeq, impl.LogSeq + 1, math.MaxInt}
	for _, k := range []keep{waitingKeep(t), restingKeep(t), {Base: impl.TreeOpen()}} {
		for _, who := range whos {
			for _, seq := range seqs {
				k.Who, k.Seq = who, seq
				ok := who >= 0 && who <= 2 && seq >= 0 && seq <= 1000 && !(k.Waits && seq == 0)
				wantKeepOkOrNot(t, fmt.Sprint(who, ".", seq, ", waits: ", k.Waits), k, ok)
			}
		}
	}
}

func TestKeepOkOfBases(t *testing.T) {
	for why, x := range treesNotOk() {
		for _, k := range []keep{waitingKeep(t), restingKeep(t), impl.KeepOpen(1)} {
			k.Base = x
			wantNoKeep(t, why, k)
		}
	}
	for _, x := range []impl.Tree{impl.TreeOpen(), turnedTree(), chainTree(), plainTree()} {
		wantKeepOkOrNot(t, "with nothing done", keep{Who: 2, Seq: 9, Base: x}, true)
	}
}

func TestKeepOkOfWaits(t *testing.T) {
	for _, seq := range []int{0, 1, 3, impl.LogSeq} {
		for _, waits := range []bool{false, true} {
			for _, sent := range [][]op{nil, {}, plainList(t), plainList(t)[:1]} {
				k := keep{Who: 1, Seq: seq, Base: turnedTree(), Waits: waits, Sent: sent}
				ok := waits == (len(sent) > 0) && (seq > 0 || !waits)
				wantKeepOkOrNot(t, fmt.Sprint(seq, waits, linesOf(sent)), k, ok)
			}
		}
	}
}

// textsOf is so many texts of 2, each of which can be done behind the others.
func textsOf(many int) []op {
	var list []op
	for i := range many {
		list = append(list, op{Kind: impl.OpText, Id: 2, Text: nameAt(i)})
	}
	return list
}

func TestKeepOkOfMost(t *testing.T) {
	for _, sent := range []int{0, 1, 59, 60, 61, 120} {
		for _, list := range []int{0, 1, 59, 60, 61, 120} {
			k := keep{Who: 1, Seq: 3, Base: turnedTree(), Waits: sent > 0, Sent: textsOf(sent), List: textsOf(list)}
			wantKeepOkOrNot(t, fmt.Sprint(sent, " on their way, then ", list), k, sent <= 60 && list <= 60)
		}
	}
	most := keep{Who: 1, Seq: 3, Base: turnedTree(), Waits: true, Sent: textsOf(100000), List: textsOf(100000)}
	wantNoKeep(t, "very many", most)
}

func TestKeepOkOfThingsThatAreNotOk(t *testing.T) {
	for _, o := range allNotOk() {
		for at := range 4 {
			with := func(list []op) []op { return slices.Insert(slices.Clone(list), min(at, len(list)), o) }
			why := fmt.Sprint(o, " at ", at)
			wantNoKeep(t, why, changedKeep(waitingKeep(t), func(k *keep) { k.Sent = with(k.Sent) }))
			wantNoKeep(t, why, changedKeep(waitingKeep(t), func(k *keep) { k.List = with(k.List) }))
			wantNoKeep(t, why, changedKeep(waitingKeep(t), func(k *keep) { k.Shelf[1] = with(k.Shelf[1]) }))
			wantNoKeep(t, why, changedKeep(restingKeep(t), func(k *keep) { k.List = with(k.List) }))
			wantNoKeep(t, why, changedKeep(restingKeep(t), func(k *keep) { k.Shelf[0] = with(k.Shelf[0]) }))
		}
	}
}

// Sent is done of Base, and List of the tree in the middle: not of Base, and not of the tree behind itself.
func TestKeepOkOfThingsThatCanNotBeDone(t *testing.T) {
	for _, c := range []struct {
		sent, list string
		ok         bool
	}{
		{"text 2 =x", "text 2 =y", true},
		{"file 8 9 c", "text 8 =y", true},
		{"file 8 9 c; text 8 =y", "", true},
		{"text 8 =y; file 8 9 c", "", false},
		{"text 8 =y", "file 8 9 c", false},
		{"", "text 8 =y; file 8 9 c", false},
		{"", "file 8 9 c; text 8 =y", true},
		{"gone 2 9 b", "text 2 =y", false},
		{"gone 2 9 b", "file 2 9 b", false},
		{"gone 2 9 b", "file 8 9 b", true},
		{"file 8 9 b", "gone 2 9 b", false},
		{"move 2 9 b 31 c", "gone 2 31 c", true},
		{"move 2 9 b 31 c", "gone 2 9 b", false},
		{"file 8 9 c", "file 8 0 d", false},
		{"file 8 9 c", "file 10 9 c", false},
		{"file 7 0 x", "", false},
		{"", "file 7 0 x", false},
		{"move 9 0 a 31 f", "move 31 0 e 9 g", false},
		{"move 9 0 a 31 f", "move 5 9 d 0 a", true},
		{"text 2 =x; text 5 =x", "", false},
		{"text 2 =x", "text 2 =y; text 5 =x", false},
	} {
		sent, list := opsOf(t, splitLines(c.sent)...), opsOf(t, splitLines(c.list)...)
		k := keep{Who: 1, Seq: 3, Base: turnedTree(), Waits: len(sent) > 0, Sent: sent, List: list}
		wantKeepOkOrNot(t, c.sent+" and then "+c.list, k, c.ok)
	}
}

func TestKeepOkWhereTheVersEnd(t *testing.T) {
	for left := range 4 {
		x := turnedTree()
		x.Objs[2].Ver = impl.TreeVer - left
		for sent := range 4 {
			for list := range 4 {
				k := keep{Who: 1, Seq: 3, Base: x, Waits: sent > 0, Sent: textsOf(sent), List: textsOf(list)}
				why := fmt.Sprint(left, " turns left, ", sent, " on their way, then ", list)
				wantKeepOkOrNot(t, why, k, sent+list <= left)
			}
		}
	}
}

func TestKeepOkOfShelves(t *testing.T) {
	for _, k := range []keep{waitingKeep(t), restingKeep(t), impl.KeepOpen(0)} {
		for many := range 8 {
			wantKeepOkOrNot(t, fmt.Sprint(many, " lists"), withShelf(k, many), many <= 4)
			empty := changedKeep(k, func(k *keep) { k.Shelf = make([][]op, many) })
			wantKeepOkOrNot(t, fmt.Sprint(many, " empty lists"), empty, many <= 4)
		}
		for _, many := range []int{0, 1, 60, 61, 119, 120, 121, 200, 100000} {
			for at := range 4 {
				long := withShelf(k, 4)
				long.Shelf[at] = textsOf(many)
				wantKeepOkOrNot(t, fmt.Sprint("a list of ", many, " at ", at), long, many <= 120)
			}
		}
		wantNoKeep(t, "very many lists", changedKeep(k, func(k *keep) { k.Shelf = make([][]op, 100000) }))
		// What is on the shelf need not be one that can be done of any tree.
		none := changedKeep(k, func(k *keep) { k.Shelf = [][]op{opsOf(t, "gone 3 3 a", "text 9 =x", "move 9 0 a 9 b")} })
		wantKeepOkOrNot(t, "what can not be done", none, true)
	}
}

func TestKeepView(t *testing.T) {
	for _, c := range []struct {
		sent, list string
		path       string
		text       string
	}{
		{"", "", "/a/b", "one1"},
		{"text 2 =x", "", "/a/b", "x"},
		{"", "text 2 =y", "/a/b", "y"},
		{"text 2 =x", "text 2 =y", "/a/b", "y"},
		{"move 2 9 b 31 c", "text 2 =y", "/e/c", "y"},
		{"move 2 9 b 31 c", "move 2 31 c 0 z", "/z", "one1"},
		{"gone 2 9 b", "", "", ""},
		{"text 2 =x", "gone 2 9 b", "", ""},
	} {
		sent, list := opsOf(t, splitLines(c.sent)...), opsOf(t, splitLines(c.list)...)
		x := wantView(t, keep{Who: 1, Seq: 3, Base: turnedTree(), Waits: len(sent) > 0, Sent: sent, List: list})
		if impl.TreePath(x, 2) != c.path || x.Objs[2].Text != c.text || x.Objs[2].Ver != 114+turnsOf2(sent)+turnsOf2(list) {
			t.Errorf("%q and then %q: %v", c.sent, c.list, x.Objs[2])
		}
	}
	x := wantView(t, waitingKeep(t))
	if impl.TreePath(x, 8) != "/a/c" || impl.TreePath(x, 1) != "/e/q/z" || impl.TreePath(x, 2) != "" || x.Objs[8].Text != "mine" {
		t.Error(x)
	}
}

// turnsOf2 is how often a list turns the file 2, which no move does.
func turnsOf2(list []op) int {
	turns := 0
	for _, o := range list {
		if o.Id == 2 && o.Kind != impl.OpMove {
			turns++
		}
	}
	return turns
}

func TestKeepDo(t *testing.T) {
	k := impl.KeepOpen(1)
	for _, o := range opsOf(t, "dir 1 0 a", "file 2 1 b", "text 2 =x", "move 2 1 b 0 c", "gone 1 0 a") {
		k = wantDo(t, k, o, impl.ActFine)
	}
	if len(k.List) != 5 || impl.TreePath(impl.KeepView(k), 2) != "/c" || impl.TreePath(impl.KeepView(k), 1) != "" {
		t.Errorf("%v", k)
	}
	wantDo(t, k, opsOf(t, "file 1 0 a")[0], impl.ActUsed)
}

// Each code, of a client that waits and of one that does not: what is asked for is what he sees, not Base.
func TestKeepDoOfEachCode(t *testing.T) {
	for _, c := range []struct {
		line    string
		waiting int
		resting int
	}{
		{"file 11 31 w", impl.ActFine, impl.ActFine},
		{"text 8 =x", impl.ActFine, impl.ActFine},
		{"file 11 2 w", impl.ActDirs, impl.ActDirs},
		{"file 11 10 w", impl.ActFine, impl.ActDirs},
		{"gone 2 9 b", impl.ActNone, impl.ActNone},
		{"gone 1 31 b", impl.ActNone, impl.ActFine},
		{"gone 1 10 z", impl.ActFine, impl.ActDirs},
		{"file 11 31 b", impl.ActFine, impl.ActThere},
		{"file 11 9 c", impl.ActThere, impl.ActThere},
		{"file 11 9 b", impl.ActFine, impl.ActFine},
		{"gone 9 0 a", impl.ActFull, impl.ActFull},
		{"gone 31 0 e", impl.ActFull, impl.ActFull},
		{"move 9 0 a 5 y", impl.ActRing, impl.ActRing},
		{"move 31 0 e 10 y", impl.ActRing, impl.ActDirs},
		{"text 9 =x", impl.ActKind, impl.ActKind},
		{"text 2 =x", impl.ActKind, impl.ActKind},
		{"file 8 0 y", impl.ActUsed, impl.ActUsed},
		{"file 2 0 y", impl.ActUsed, impl.ActUsed},
		{"dir 10 0 y", impl.ActUsed, impl.ActFine},
	} {
		o := opsOf(t, c.line)[0]
		wantDo(t, waitingKeep(t), o, c.waiting)
		wantDo(t, restingKeep(t), o, c.resting)
	}
	for _, o := range allNotOk() {
		wantDo(t, waitingKeep(t), o, impl.ActForm)
		wantDo(t, restingKeep(t), o, impl.ActForm)
		wantDo(t, impl.KeepOpen(2), o, impl.ActForm)
	}
}

func TestKeepDoWhereTheVersEnd(t *testing.T) {
	k := keep{Who: 1, Seq: 3, Base: turnedTree()}
	k.Base.Objs[2].Ver = impl.TreeVer - 2
	o := opsOf(t, "text 2 =x")[0]
	k = wantDo(t, k, o, impl.ActFine)
	k = wantDo(t, k, o, impl.ActFine)
	wantDo(t, k, o, impl.ActForm)
	wantDo(t, k, opsOf(t, "gone 2 9 b")[0], impl.ActForm)
	wantDo(t, k, opsOf(t, "text 1 =x")[0], impl.ActFine)
}

func TestKeepDoOfMost(t *testing.T) {
	for _, waits := range []bool{false, true} {
		k := keep{Who: 1, Seq: 3, Base: turnedTree()}
		if waits {
			k.Waits, k.Sent = true, textsOf(impl.ActMost)
		}
		for i := range impl.ActMost {
			k.List = textsOf(i)
			got := wantDo(t, k, opsOf(t, "text 2 =last")[0], impl.ActFine)
			if len(got.List) != i+1 {
				t.Errorf("%d behind %d", len(got.List), i)
			}
		}
		k.List = textsOf(impl.ActMost)
		// What could be done, what could not, and what is not ok: each is too much.
		for _, o := range append(opsOf(t, "text 2 =x", "text 1 =x", "file 11 2 w", "gone 9 0 a", "text 9 =x"), op{}) {
			wantDo(t, k, o, impl.ActForm)
		}
	}
}

// A full shelf, and a number that is the last one, keep nobody from doing something.
func TestKeepDoOfFullClients(t *testing.T) {
	k := withShelf(waitingKeep(t), impl.KeepShelf)
	k.Seq = impl.LogSeq
	wantDo(t, k, opsOf(t, "file 11 10 w")[0], impl.ActFine)
}

func TestKeepSendOfOneThatWaits(t *testing.T) {
	for _, seq := range []int{1, 3, impl.LogSeq} {
		k := changedKeep(waitingKeep(t), func(k *keep) { k.Seq = seq })
		first, out := wantSend(t, k)
		if !equalKeeps(first, k) || len(out) != 1 || out[0].Kind != impl.MsgLog {
			t.Fatalf("%v, %v", first, out)
		}
		want := plainLogWith(t, func(l *impl.Log) { l.Seq = seq })
		if !equalMsgs(out[0], logMsg(want)) {
			t.Errorf("%v, not %v", out[0], want)
		}
		if second, again := wantSend(t, first); !equalKeeps(second, k) || !equalMsgs(again[0], out[0]) {
			t.Errorf("once more: %v", again)
		}
		// What was done since does not go.
		more := wantDo(t, first, opsOf(t, "text 8 =more")[0], impl.ActFine)
		if _, again := wantSend(t, more); !equalMsgs(again[0], out[0]) {
			t.Errorf("behind more that was done: %v", again)
		}
	}
}

func TestKeepSendOfTheLastSeq(t *testing.T) {
	for _, list := range [][]op{nil, plainList(t), textsOf(impl.ActMost)} {
		k := keep{Who: 2, Seq: impl.LogSeq, Base: turnedTree(), List: list}
		if got, out := wantSend(t, k); !equalKeeps(got, k) || len(out) != 0 {
			t.Errorf("the last one: %v, %v", got, out)
		}
		k.Seq--
		if got, out := wantSend(t, k); got.Seq != impl.LogSeq || len(out) != 1 {
			t.Errorf("the one ahead of it: %v, %v", got, out)
		}
	}
}

func TestKeepSendOfAnEmptyList(t *testing.T) {
	for who := range impl.LogWho {
		k := impl.KeepOpen(who)
		for seq := 1; seq < 4; seq++ {
			next, out := wantSend(t, k)
			if len(out) != 1 || !equalMsgs(out[0], fetchMsg(who, seq)) || next.Waits || next.Seq != seq {
				t.Fatalf("%v, %v", next, out)
			}
			k = next
		}
	}
}

// A list that is made shorter to nothing leaves nothing to wait for.
func TestKeepSendOfAListThatIsMadeShorterToNothing(t *testing.T) {
	for _, lines := range []string{
		"file 8 9 c; gone 8 9 c",
		"dir 8 9 c; file 10 8 d; text 10 =x; gone 10 8 d; move 8 9 c 0 f; gone 8 0 f",
		"move 2 9 b 31 c; move 2 31 c 9 b",
		"move 2 9 b 31 c; file 8 9 b; gone 8 9 b; move 2 31 c 9 b",
	} {
		k := changedKeep(restingKeep(t), func(k *keep) { k.List = opsOf(t, splitLines(lines)...) })
		got, out := wantSend(t, k)
		if got.Waits || got.Seq != 4 || len(got.Sent)+len(got.List) != 0 || len(out) != 1 || !equalMsgs(out[0], fetchMsg(1, 4)) {
			t.Errorf("%q: %v, %v", lines, got, out)
		}
		if len(got.Shelf) != 2 {
			t.Errorf("%q: the shelf is %v", lines, got.Shelf)
		}
	}
}

func TestKeepSendOfAListThatStays(t *testing.T) {
	for _, c := range []struct{ list, sent, text string }{
		{"text 2 =x", "text 2 =x", "log 1 4 2/114, text 2 =x"},
		{"text 2 =x; text 2 =y", "text 2 =y", "log 1 4 2/114, text 2 =y"},
		{"file 8 9 c; move 8 9 c 31 d", "file 8 31 d", "log 1 4 8/0 31/317, file 8 31 d"},
		{"text 2 =x; gone 2 9 b", "gone 2 9 b", "log 1 4 2/114 9/163, gone 2 9 b"},
		{
			"text 2 =x; file 8 9 c; move 1 5 b 31 b; gone 2 9 b", "file 8 9 c; move 1 5 b 31 b; gone 2 9 b",
			"log 1 4 1/107 2/114 5/135 8/0 9/163 31/317, file 8 9 c, move 1 5 b 31 b, gone 2 9 b",
		},
		{"file 8 0 x; gone 8 0 x; dir 10 5 q", "dir 10 5 q", "log 1 4 5/135 10/0, dir 10 5 q"},
	} {
		k := changedKeep(restingKeep(t), func(k *keep) { k.List = opsOf(t, splitLines(c.list)...) })
		got, out := wantSend(t, k)
		if !got.Waits || got.Seq != 4 || len(got.List) != 0 || !slices.Equal(linesOf(got.Sent), splitLines(c.sent)) {
			t.Errorf("%q: %v", c.list, got)
		}
		if len(out) != 1 || impl.MsgText(out[0]) != c.text || !impl.LogOk(out[0].Log) {
			t.Errorf("%q: %v, not %q", c.list, out, c.text)
		}
		if !impl.TreeSame(got.Base, k.Base) || len(got.Shelf) != 2 {
			t.Errorf("%q: %v", c.list, got)
		}
	}
}

func TestKeepSendOfMost(t *testing.T) {
	k := impl.KeepOpen(0)
	for i := range impl.ActMost {
		o := op{Kind: impl.OpDir, Id: 1 + i, Name: nameAt(i)}
		if i >= impl.TreeMax-1 {
			o = op{Kind: impl.OpMove, Id: i - 30, Name: nameAt(i - 31), Name2: nameAt(i)}
		}
		k = wantDo(t, k, o, impl.ActFine)
	}
	got, out := wantSend(t, k)
	if len(got.Sent) != impl.ActMost || len(out[0].Log.Bases) != impl.TreeMax {
		t.Errorf("%d of %d go", len(got.Sent), impl.ActMost)
	}
}

func TestKeepClear(t *testing.T) {
	for _, k := range []keep{waitingKeep(t), restingKeep(t), impl.KeepOpen(1)} {
		for many := range impl.KeepShelf + 1 {
			full := withShelf(k, many)
			for i := -2; i <= many+2; i++ {
				got := wantCleared(t, full, i)
				left := many
				if i >= 0 && i < many {
					left--
				}
				if len(got.Shelf) != left {
					t.Errorf("without %d of %d there are %d", i, many, len(got.Shelf))
				}
			}
			for _, i := range []int{math.MinInt, math.MaxInt, 4, 5} {
				if got := wantCleared(t, full, i); !equalKeeps(got, full) {
					t.Errorf("without %d of %d: %v", i, many, got)
				}
			}
		}
	}
	got := wantCleared(t, withShelf(waitingKeep(t), 4), 1)
	if ids := []int{got.Shelf[0][0].Id, got.Shelf[1][0].Id, got.Shelf[2][0].Id}; !slices.Equal(ids, []int{20, 22, 23}) {
		t.Errorf("without 1: %v", ids)
	}
	k := changedKeep(restingKeep(t), func(k *keep) { k.Shelf = [][]op{nil, textsOf(120), {}, textsOf(1)} })
	if got := wantCleared(t, wantCleared(t, k, 2), 0); len(got.Shelf) != 2 || len(got.Shelf[0]) != 120 || len(got.Shelf[1]) != 1 {
		t.Errorf("empty lists: %v", got.Shelf)
	}
	wantNoKeep(t, "nobody's", changedKeep(waitingKeep(t), func(k *keep) { k.Who = 3 }))
}
