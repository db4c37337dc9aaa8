package tests

import (
	"math"
	"slices"
	"testing"

	"loop.example/shieling/impl"
)

type ent = impl.Ent

func file(text string) impl.Obj {
	return impl.Obj{Kind: impl.TreeFile, Ver: 1, Text: text}
}

func dir(kids ...ent) impl.Obj {
	return impl.Obj{Kind: impl.TreeDir, Ver: 1, Kids: kids}
}

// plainTree is /a, /a/b, /a/d, /a/d/b and /e; 7 was somebody's, all else was nobody's.
func plainTree() impl.Tree {
	t := impl.Tree{Objs: make([]impl.Obj, impl.TreeMax)}
	t.Objs[0] = dir(ent{Name: "a", Id: 9}, ent{Name: "e", Id: 31})
	t.Objs[9] = dir(ent{Name: "b", Id: 2}, ent{Name: "d", Id: 5})
	t.Objs[5] = dir(ent{Name: "b", Id: 1})
	t.Objs[2] = file("one1")
	t.Objs[1] = file("")
	t.Objs[31] = dir()
	t.Objs[7] = impl.Obj{Ver: 4}
	return t
}

// chainTree is 31 directories, each in the one ahead of it.
func chainTree() impl.Tree {
	t := impl.Tree{Objs: make([]impl.Obj, impl.TreeMax)}
	for id := range impl.TreeMax {
		t.Objs[id] = dir(ent{Name: "x", Id: id + 1})
	}
	t.Objs[impl.TreeMax-1] = dir()
	return t
}

func copyTree(t impl.Tree) impl.Tree {
	c := impl.Tree{Objs: slices.Clone(t.Objs)}
	for id := range c.Objs {
		c.Objs[id].Kids = slices.Clone(c.Objs[id].Kids)
	}
	return c
}

// plainTreeWith is plainTree behind a change.
func plainTreeWith(change func(t *impl.Tree)) impl.Tree {
	t := plainTree()
	change(&t)
	return t
}

// treesNotOk is one of each fault, by what it is.
func treesNotOk() map[string]impl.Tree {
	open := impl.TreeOpen()
	return map[string]impl.Tree{
		"nothing":          {},
		"no objects":       {Objs: []impl.Obj{}},
		"one object fewer": {Objs: open.Objs[:impl.TreeMax-1]},
		"one object more":  {Objs: append(slices.Clone(open.Objs), impl.Obj{})},
		"no top":           {Objs: make([]impl.Obj, impl.TreeMax)},
		"a Ver too great":  plainTreeWith(func(x *impl.Tree) { x.Objs[7].Ver = impl.TreeVer + 1 }),
		"a Ver below 0":    plainTreeWith(func(x *impl.Tree) { x.Objs[7].Ver = -1 }),
		"a file nowhere":   plainTreeWith(func(x *impl.Tree) { x.Objs[3] = file("") }),
		"a ring":           plainTreeWith(func(x *impl.Tree) { x.Objs[3] = dir(ent{Name: "c", Id: 3}) }),
		"a name of 40":     plainTreeWith(func(x *impl.Tree) { x.Objs[31].Kids = []ent{{Name: "c", Id: 40}} }),
		"names disordered": plainTreeWith(func(x *impl.Tree) { slices.Reverse(x.Objs[9].Kids) }),
	}
}

// fill writes into all of a list, spare room included.
func fill[T any](list []T, bad T) {
	for i := range list[:cap(list)] {
		list[:cap(list)][i] = bad
	}
}

// oddNumbers is numbers of objects, of none, and far from both.
var oddNumbers = []int{math.MinInt, -32, -2, -1, 0, 1, 2, 5, 7, 9, 30, 31, 32, 33, 64, math.MaxInt}

var oddNames = []string{"", "a", "b", "e", "zzzz", "abcde", "A", "/", "\xff", "a\x00", "é"}

// wantSilent asks that nothing is told of a tree that is not ok.
func wantSilent(t *testing.T, why string, x impl.Tree) {
	t.Helper()
	if impl.TreeOk(x) {
		t.Errorf("%s: is ok", why)
	}
	for _, id := range oddNumbers {
		for _, name := range oddNames {
			if got := impl.TreeFind(x, id, name); got != -1 {
				t.Errorf("%s: TreeFind(%d, %q) = %d", why, id, name, got)
			}
		}
		if got := impl.TreeHome(x, id); got != -1 {
			t.Errorf("%s: TreeHome(%d) = %d", why, id, got)
		}
		if got := impl.TreePath(x, id); got != "" {
			t.Errorf("%s: TreePath(%d) = %q", why, id, got)
		}
		for _, dir := range oddNumbers {
			if impl.TreeUnder(x, id, dir) {
				t.Errorf("%s: TreeUnder(%d, %d)", why, id, dir)
			}
		}
	}
}

// wantAtHome asks for promise 1 of an ok tree, by looking through all directories.
func wantAtHome(t *testing.T, x impl.Tree) {
	t.Helper()
	if !impl.TreeOk(x) {
		t.Fatalf("not ok: %v", x)
	}
	named := map[int]int{}
	for dir, o := range x.Objs {
		for _, kid := range o.Kids {
			named[kid.Id]++
			wantNamed(t, x, dir, kid)
		}
	}
	for id, o := range x.Objs {
		want := 1
		if id == 0 || o.Kind == impl.TreeNone {
			want = 0
		}
		if named[id] != want {
			t.Errorf("object %d is named %d times", id, named[id])
		}
		if got := impl.TreeUnder(x, id, 0); got != (o.Kind != impl.TreeNone) {
			t.Errorf("TreeUnder(%d, 0) = %v", id, got)
		}
	}
}

func wantNamed(t *testing.T, x impl.Tree, dir int, kid ent) {
	t.Helper()
	if got := impl.TreeFind(x, dir, kid.Name); got != kid.Id {
		t.Errorf("TreeFind(%d, %q) = %d, not %d", dir, kid.Name, got, kid.Id)
	}
	if got := impl.TreeHome(x, kid.Id); got != dir {
		t.Errorf("TreeHome(%d) = %d, not %d", kid.Id, got, dir)
	}
	if !impl.TreeUnder(x, kid.Id, dir) || impl.TreeUnder(x, dir, kid.Id) {
		t.Errorf("%d is not under %d, or that is under it", kid.Id, dir)
	}
	path := impl.TreePath(x, dir) + "/" + kid.Name
	if dir == 0 {
		path = "/" + kid.Name
	}
	if got := impl.TreePath(x, kid.Id); got != path {
		t.Errorf("TreePath(%d) = %q, not %q", kid.Id, got, path)
	}
}
