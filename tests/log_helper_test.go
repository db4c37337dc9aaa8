package tests

import (
	"maps"
	"math"
	"slices"
	"testing"

	"loop.example/shieling/impl"
)

type base = impl.Base

// plainList names 1, 2, 5, 8, 9 and 31: 8 is to be made, 9 is named twice, and so is 2.
func plainList(t *testing.T) []op {
	t.Helper()
	return opsOf(t, "text 2 =x", "file 8 9 c", "move 1 5 b 31 b", "gone 2 9 b")
}

// plainLog leans on turnedTree.
func plainLog(t *testing.T) impl.Log {
	t.Helper()
	return impl.Log{
		Who: 1,
		Seq: 3,
		Bases: []base{
			{Id: 1, Ver: 107}, {Id: 2, Ver: 114}, {Id: 5, Ver: 135},
			{Id: 8, Ver: 0}, {Id: 9, Ver: 163}, {Id: 31, Ver: 317},
		},
		List: plainList(t),
	}
}

func plainLogWith(t *testing.T, change func(l *impl.Log)) impl.Log {
	t.Helper()
	l := plainLog(t)
	change(&l)
	return l
}

func copyLog(l impl.Log) impl.Log {
	l.Bases, l.List = slices.Clone(l.Bases), slices.Clone(l.List)
	return l
}

// equalLogs is told apart from LogSame, which is asked itself.
func equalLogs(a impl.Log, b impl.Log) bool {
	return a.Who == b.Who && a.Seq == b.Seq && slices.Equal(a.Bases, b.Bases) && slices.Equal(a.List, b.List)
}

func isNoLog(l impl.Log) bool {
	return l.Who == 0 && l.Seq == 0 && len(l.Bases) == 0 && len(l.List) == 0
}

// numbersOf is what chapter 5 says of LogIds, by OpIds of each.
func numbersOf(list []op) []int {
	if len(list) > impl.ActMost {
		list = list[:impl.ActMost]
	}
	return slices.Sorted(maps.Keys(namedIn(list)))
}

// wantLog asks for promise 5 of a tree and a list that are ok; it gives the log.
func wantLog(t *testing.T, x impl.Tree, o owner, list []op) impl.Log {
	t.Helper()
	wasTree, wasList := copyTree(x), slices.Clone(list)
	l := impl.LogMake(x, o.who, o.seq, list)
	if !impl.TreeSame(x, wasTree) || !slices.Equal(list, wasList) {
		t.Fatalf("the log of %q: what was handed in is another one", linesOf(wasList))
	}
	want := impl.Log{Who: o.who, Seq: o.seq, List: list}
	for _, id := range numbersOf(list) {
		want.Bases = append(want.Bases, base{Id: id, Ver: x.Objs[id].Ver})
	}
	if !equalLogs(l, want) {
		t.Fatalf("the log of %q is %v, not %v", linesOf(list), l, want)
	}
	if ids := impl.LogIds(list); !slices.Equal(ids, numbersOf(list)) {
		t.Fatalf("LogIds of %q: %v", linesOf(list), ids)
	}
	if impl.LogOk(l) != o.isOne() {
		t.Errorf("the log %v: ok is %v", l, !o.isOne())
	}
	if o.isOne() {
		wantFits(t, x, l, true, -1)
	} else {
		wantFits(t, x, l, false, -1)
	}
	return l
}

// owner is whose a log is, and its number.
type owner struct {
	who, seq int
}

func (o owner) isOne() bool { return o.who >= 0 && o.who <= 2 && o.seq >= 1 && o.seq <= 1000 }

var (
	ownersOk    = []owner{{0, 1}, {1, 2}, {2, 1000}, {2, 1}, {0, 1000}, {1, 999}}
	ownersNotOk = []owner{
		{-1, 1}, {3, 1}, {4, 1}, {math.MinInt, 1}, {math.MaxInt, 1},
		{0, 0}, {0, -1}, {1, 1001}, {2, math.MaxInt}, {2, math.MinInt},
		{0, 1001}, {3, 1000}, {-1, 0}, {3, 1001},
	}
)

// wantFits also asks that neither is another one behind the call.
func wantFits(t *testing.T, x impl.Tree, l impl.Log, fits bool, first int) {
	t.Helper()
	wasTree, wasLog := copyTree(x), copyLog(l)
	if got, id := impl.LogFits(x, l); got != fits || id != first {
		t.Errorf("LogFits of %v: %v, %d, not %v, %d", l, got, id, fits, first)
	}
	if !impl.TreeSame(x, wasTree) || !equalLogs(l, wasLog) {
		t.Errorf("LogFits of %v: what was handed in is another one", wasLog)
	}
}

// wantNoLog asks that a log is not ok, and fits nothing.
func wantNoLog(t *testing.T, why string, l impl.Log) {
	t.Helper()
	was := copyLog(l)
	if impl.LogOk(l) {
		t.Errorf("%s: ok", why)
	}
	if !equalLogs(l, was) {
		t.Errorf("%s: LogOk leaves another log", why)
	}
	for _, x := range []impl.Tree{turnedTree(), impl.TreeOpen(), {}} {
		if fits, id := impl.LogFits(x, l); fits || id != -1 {
			t.Errorf("%s: LogFits = %v, %d", why, fits, id)
		}
	}
}

// turnedOnce is the tree in which one object was turned once more; nothing else is another one.
func turnedOnce(x impl.Tree, id int) impl.Tree {
	y := copyTree(x)
	y.Objs[id].Ver++
	return y
}
