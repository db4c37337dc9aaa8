package tests

import (
	"math"
	"reflect"
	"strings"
	"testing"

	"loop.example/shieling/impl"
)

func TestTreeOpenIsTheTopAlone(t *testing.T) {
	x := impl.TreeOpen()
	if len(x.Objs) != impl.TreeMax || !impl.TreeOk(x) {
		t.Fatal(x)
	}
	for id, o := range x.Objs {
		want := impl.Obj{}
		if id == 0 {
			want = impl.Obj{Kind: impl.TreeDir, Ver: 1}
		}
		if o.Kind != want.Kind || o.Ver != want.Ver || o.Text != "" || len(o.Kids) != 0 {
			t.Errorf("object %d is %v", id, o)
		}
	}
	wantAtHome(t, x)
}

func TestTreeOpenIsNewMemory(t *testing.T) {
	x := impl.TreeOpen()
	all := x.Objs[:cap(x.Objs)]
	for i := range all {
		all[i] = file("old")
	}
	if y := impl.TreeOpen(); !impl.TreeOk(y) || y.Objs[1].Kind != impl.TreeNone {
		t.Error("what was written into one answer is in the next one")
	}
}

func TestTreeBounds(t *testing.T) {
	if impl.TreeMax != 32 || impl.TreeText != 12 || impl.TreeName != 4 || impl.TreeVer != 1000000 {
		t.Error("a bound is another one")
	}
	if impl.TreeNone != 0 || impl.TreeFile != 1 || impl.TreeDir != 2 {
		t.Error("a kind is another one")
	}
}

func TestTreeWord(t *testing.T) {
	for _, name := range []string{"a", "z", "az", "abc", "abcd", "zzzz"} {
		if !impl.TreeWord(name) {
			t.Errorf("%q is no name", name)
		}
	}
	wrong := []string{"", "abcde", strings.Repeat("a", 1000), "A", "Z", "0", "a1", "a b", " a", "a ", "a/b", "`", "{", "é", "\xff", "a\x00", "a\n"}
	for _, name := range wrong {
		if impl.TreeWord(name) {
			t.Errorf("%q is a name", name)
		}
	}
}

func TestTreeBody(t *testing.T) {
	for _, text := range []string{"", "a", "z", "0", "9", "a1b2", "abcdefghijkl", "zzzzzz999999"} {
		if !impl.TreeBody(text) {
			t.Errorf("%q is no text", text)
		}
	}
	wrong := []string{"abcdefghijklm", strings.Repeat("a", 1000), "A", "a b", " ", "/", ":", "`", "{", "a.b", "é", "\xff", "\x00", "a\n"}
	for _, text := range wrong {
		if impl.TreeBody(text) {
			t.Errorf("%q is a text", text)
		}
	}
}

func TestTreeByteByByte(t *testing.T) {
	for b := range 256 {
		text := string([]byte{byte(b)})
		letter := strings.Contains("abcdefghijklmnopqrstuvwxyz", text)
		figure := strings.Contains("0123456789", text)
		if impl.TreeWord(text) != letter {
			t.Errorf("TreeWord(%q) = %v", text, !letter)
		}
		if impl.TreeBody(text) != (letter || figure) {
			t.Errorf("TreeBody(%q) is wrong", text)
		}
	}
}

func TestTreeOrdinary(t *testing.T) {
	x := plainTree()
	wantAtHome(t, x)
	paths := map[int]string{0: "/", 9: "/a", 2: "/a/b", 5: "/a/d", 1: "/a/d/b", 31: "/e"}
	homes := map[int]int{9: 0, 2: 9, 5: 9, 1: 5, 31: 0}
	for _, id := range oddNumbers {
		if got := impl.TreePath(x, id); got != paths[id] {
			t.Errorf("TreePath(%d) = %q", id, got)
		}
		home, named := homes[id]
		if !named {
			home = -1
		}
		if got := impl.TreeHome(x, id); got != home {
			t.Errorf("TreeHome(%d) = %d", id, got)
		}
	}
}

func TestTreeFind(t *testing.T) {
	x := plainTree()
	found := map[int]map[string]int{0: {"a": 9, "e": 31}, 9: {"b": 2, "d": 5}, 5: {"b": 1}}
	for _, dir := range oddNumbers {
		for _, name := range append(oddNames, "d", "c", "aa", "f") {
			want, ok := found[dir][name]
			if !ok {
				want = -1
			}
			if got := impl.TreeFind(x, dir, name); got != want {
				t.Errorf("TreeFind(%d, %q) = %d, not %d", dir, name, got, want)
			}
		}
	}
}

func TestTreeFindInDirectoriesOfAllSizes(t *testing.T) {
	for many := range impl.TreeMax {
		x := impl.TreeOpen()
		for i := 1; i <= many; i++ {
			x.Objs[impl.TreeMax-i] = file("")
			x.Objs[0].Kids = append(x.Objs[0].Kids, ent{Name: nameAt(2 * i), Id: impl.TreeMax - i})
		}
		wantAtHome(t, x)
		for i := 0; i <= many; i++ {
			if got := impl.TreeFind(x, 0, nameAt(2*i+1)); got != -1 {
				t.Errorf("of %d names: one that is not there names %d", many, got)
			}
		}
	}
}

// nameAt is names in ascending order.
func nameAt(i int) string {
	return string([]byte{byte('a' + i/26), byte('a' + i%26)})
}

func TestTreeUnder(t *testing.T) {
	x := plainTree()
	ways := map[int][]int{0: {0}, 9: {9, 0}, 2: {2, 9, 0}, 5: {5, 9, 0}, 1: {1, 5, 9, 0}, 31: {31, 0}}
	for _, id := range oddNumbers {
		for _, dir := range oddNumbers {
			want := false
			for _, at := range ways[id] {
				want = want || at == dir
			}
			if got := impl.TreeUnder(x, id, dir); got != want {
				t.Errorf("TreeUnder(%d, %d) = %v", id, dir, got)
			}
		}
	}
}

func TestTreeDeepest(t *testing.T) {
	x := chainTree()
	wantAtHome(t, x)
	if got := impl.TreePath(x, impl.TreeMax-1); got != strings.Repeat("/x", impl.TreeMax-1) {
		t.Errorf("path %q", got)
	}
	if !impl.TreeUnder(x, impl.TreeMax-1, 1) || impl.TreeUnder(x, 1, impl.TreeMax-1) {
		t.Error("under")
	}
}

func TestTreeEdgesThatAreOk(t *testing.T) {
	edges := map[string]func(x *impl.Tree){
		"a name of 1 letter":          func(x *impl.Tree) { x.Objs[5].Kids[0].Name = "z" },
		"a name of 4 letters":         func(x *impl.Tree) { x.Objs[5].Kids[0].Name = "zzzz" },
		"one name ahead of a longer":  func(x *impl.Tree) { x.Objs[0].Kids[1].Name = "aa" },
		"a text of 0 bytes":           func(x *impl.Tree) { x.Objs[2].Text = "" },
		"a text of 12 bytes":          func(x *impl.Tree) { x.Objs[2].Text = "abcdef012345" },
		"the least Ver of a file":     func(x *impl.Tree) { x.Objs[2].Ver = 1 },
		"the greatest Ver of a file":  func(x *impl.Tree) { x.Objs[2].Ver = 1000000 },
		"the greatest Ver of the top": func(x *impl.Tree) { x.Objs[0].Ver = 1000000 },
		"a Ver of 0 of nothing":       func(x *impl.Tree) { x.Objs[7].Ver = 0 },
		"the greatest Ver of nothing": func(x *impl.Tree) { x.Objs[7].Ver = 1000000 },
		"empty lists, not nil":        func(x *impl.Tree) { x.Objs[7].Kids, x.Objs[2].Kids = []ent{}, []ent{} },
	}
	for why, change := range edges {
		x := plainTreeWith(change)
		if !impl.TreeOk(x) {
			t.Errorf("%s: not ok", why)
			continue
		}
		wantAtHome(t, x)
	}
}

func TestTreeWrongCounts(t *testing.T) {
	wantSilent(t, "no objects", impl.Tree{})
	wantSilent(t, "an empty list of objects", impl.Tree{Objs: []impl.Obj{}})
	wantSilent(t, "the top alone", impl.Tree{Objs: []impl.Obj{dir()}})
	open := impl.TreeOpen()
	wantSilent(t, "one object fewer", impl.Tree{Objs: open.Objs[:impl.TreeMax-1]})
	wantSilent(t, "one object more", impl.Tree{Objs: append(open.Objs, impl.Obj{})})
	wantSilent(t, "all nothing", impl.Tree{Objs: make([]impl.Obj, impl.TreeMax)})
}

func TestTreeWrongObjects(t *testing.T) {
	wrongs := map[string]func(x *impl.Tree){
		"the top is a file":                   func(x *impl.Tree) { *x = impl.TreeOpen(); x.Objs[0] = file("") },
		"the top is nothing":                  func(x *impl.Tree) { *x = impl.TreeOpen(); x.Objs[0] = impl.Obj{Ver: 1} },
		"the kind 3":                          func(x *impl.Tree) { x.Objs[2].Kind = 3 },
		"the kind -1":                         func(x *impl.Tree) { x.Objs[2].Kind = -1 },
		"the kind 3 that no one names":        func(x *impl.Tree) { x.Objs[8].Kind = 3 },
		"a Ver of 0 of the top":               func(x *impl.Tree) { x.Objs[0].Ver = 0 },
		"a Ver of 0 of a file":                func(x *impl.Tree) { x.Objs[2].Ver = 0 },
		"a Ver of 0 of a directory":           func(x *impl.Tree) { x.Objs[9].Ver = 0 },
		"a Ver below 0 of a file":             func(x *impl.Tree) { x.Objs[2].Ver = -1 },
		"a Ver below 0 of nothing":            func(x *impl.Tree) { x.Objs[7].Ver = -1 },
		"the least number as a Ver":           func(x *impl.Tree) { x.Objs[7].Ver = math.MinInt },
		"a Ver of one more of a file":         func(x *impl.Tree) { x.Objs[2].Ver = 1000001 },
		"a Ver of one more of nothing":        func(x *impl.Tree) { x.Objs[7].Ver = 1000001 },
		"a Ver of one more of the top":        func(x *impl.Tree) { x.Objs[0].Ver = 1000001 },
		"a text of 13 bytes":                  func(x *impl.Tree) { x.Objs[2].Text = "abcdef0123456" },
		"a text that is none":                 func(x *impl.Tree) { x.Objs[2].Text = "A" },
		"a file with names":                   func(x *impl.Tree) { x.Objs[2].Kids = []ent{{Name: "c", Id: 3}}; x.Objs[3] = file("") },
		"a file with names, and no more":      func(x *impl.Tree) { x.Objs[2].Kids = []ent{{Name: "c", Id: 31}}; x.Objs[0].Kids = x.Objs[0].Kids[:1] },
		"a directory with a text":             func(x *impl.Tree) { x.Objs[9].Text = "a" },
		"the top with a text":                 func(x *impl.Tree) { x.Objs[0].Text = "a" },
		"nothing with a text":                 func(x *impl.Tree) { x.Objs[7].Text = "a" },
		"nothing with names":                  func(x *impl.Tree) { x.Objs[7].Kids = []ent{{Name: "c", Id: 3}}; x.Objs[3] = file("") },
		"nothing that was never, with a text": func(x *impl.Tree) { x.Objs[8].Text = "a" },
	}
	for why, change := range wrongs {
		wantSilent(t, why, plainTreeWith(change))
	}
}

func TestTreeWrongNames(t *testing.T) {
	wrongs := map[string]func(x *impl.Tree){
		"a name of 5 letters":             func(x *impl.Tree) { x.Objs[5].Kids[0].Name = "abcde" },
		"a name of 0 letters":             func(x *impl.Tree) { x.Objs[5].Kids[0].Name = "" },
		"a name with a figure":            func(x *impl.Tree) { x.Objs[5].Kids[0].Name = "a1" },
		"names out of order":              func(x *impl.Tree) { k := x.Objs[9].Kids; k[0], k[1] = k[1], k[0] },
		"a name twice, of two objects":    func(x *impl.Tree) { x.Objs[9].Kids[1].Name = "b" },
		"a name twice, of one object":     func(x *impl.Tree) { x.Objs[5].Kids = append(x.Objs[5].Kids, x.Objs[5].Kids[0]) },
		"two names in one directory":      func(x *impl.Tree) { x.Objs[5].Kids = append(x.Objs[5].Kids, ent{Name: "c", Id: 1}) },
		"two names in two directories":    func(x *impl.Tree) { x.Objs[31].Kids = []ent{{Name: "c", Id: 1}} },
		"a directory in two directories":  func(x *impl.Tree) { x.Objs[31].Kids = []ent{{Name: "c", Id: 5}} },
		"a file that no one names":        func(x *impl.Tree) { x.Objs[3] = file("") },
		"a directory that no one names":   func(x *impl.Tree) { x.Objs[3] = dir() },
		"the last object, without a name": func(x *impl.Tree) { x.Objs[0].Kids = x.Objs[0].Kids[:1] },
		"a name of nothing":               func(x *impl.Tree) { x.Objs[31].Kids = []ent{{Name: "c", Id: 8}} },
		"a name of what was once":         func(x *impl.Tree) { x.Objs[31].Kids = []ent{{Name: "c", Id: 7}} },
		"a name of the top":               func(x *impl.Tree) { x.Objs[31].Kids = []ent{{Name: "c", Id: 0}} },
		"the top's own name":              func(x *impl.Tree) { x.Objs[0].Kids = append(x.Objs[0].Kids, ent{Name: "f", Id: 0}) },
		"a name of the number -1":         func(x *impl.Tree) { x.Objs[31].Kids = []ent{{Name: "c", Id: -1}} },
		"a name of the number 32":         func(x *impl.Tree) { x.Objs[31].Kids = []ent{{Name: "c", Id: 32}} },
		"a name of the least number":      func(x *impl.Tree) { x.Objs[31].Kids = []ent{{Name: "c", Id: math.MinInt}} },
		"a name of the greatest number":   func(x *impl.Tree) { x.Objs[31].Kids = []ent{{Name: "c", Id: math.MaxInt}} },
	}
	for why, change := range wrongs {
		wantSilent(t, why, plainTreeWith(change))
	}
}

func TestTreeRings(t *testing.T) {
	wrongs := map[string]func(x *impl.Tree){
		"a directory in itself": func(x *impl.Tree) { x.Objs[3] = dir(ent{Name: "c", Id: 3}) },
		"a ring of two": func(x *impl.Tree) {
			x.Objs[3] = dir(ent{Name: "c", Id: 4})
			x.Objs[4] = dir(ent{Name: "c", Id: 3})
		},
		"a ring of two with a file on it": func(x *impl.Tree) {
			x.Objs[3] = dir(ent{Name: "c", Id: 4})
			x.Objs[4] = dir(ent{Name: "c", Id: 3}, ent{Name: "d", Id: 6})
			x.Objs[6] = file("")
		},
	}
	for why, change := range wrongs {
		wantSilent(t, why, plainTreeWith(change))
	}
	x := chainTree()
	x.Objs[0].Kids = nil
	x.Objs[impl.TreeMax-1].Kids = []ent{{Name: "x", Id: 1}}
	wantSilent(t, "a ring of all but the top", x)
}

// All ways in which 5 objects can be in each other, or in the top, or nowhere.
func TestTreeAllHomesOfFive(t *testing.T) {
	const many = 5
	ways := 1
	for range many {
		ways *= many + 2
	}
	for way := range ways {
		var homes [many + 1]int
		homes[0] = -1
		x := impl.TreeOpen()
		rest := way
		for id := 1; id <= many; id++ {
			x.Objs[id] = dir()
			homes[id] = rest%(many+2) - 1
			rest /= many + 2
		}
		for id := 1; id <= many; id++ {
			if homes[id] >= 0 {
				kids := &x.Objs[homes[id]].Kids
				*kids = append(*kids, ent{Name: nameAt(id), Id: id})
			}
		}
		want := true
		for id := 1; id <= many; id++ {
			at := id
			for range many {
				if at > 0 {
					at = homes[at]
				}
			}
			want = want && at == 0
		}
		if impl.TreeOk(x) != want {
			t.Fatalf("homes %v: ok %v", homes, !want)
		}
		if want {
			wantAtHome(t, x)
		}
	}
}

func TestTreeSameAndLike(t *testing.T) {
	if !impl.TreeSame(plainTree(), plainTree()) || !impl.TreeLike(plainTree(), plainTree()) {
		t.Error("a tree and itself")
	}
	others := map[string]func(x *impl.Tree){
		"a kind":            func(x *impl.Tree) { x.Objs[8].Kind = 3 },
		"a text":            func(x *impl.Tree) { x.Objs[2].Text = "one2" },
		"a text of nothing": func(x *impl.Tree) { x.Objs[8].Text = "a" },
		"a name":            func(x *impl.Tree) { x.Objs[5].Kids[0].Name = "c" },
		"what is named":     func(x *impl.Tree) { x.Objs[5].Kids[0].Id = 2 },
		"a name more":       func(x *impl.Tree) { x.Objs[31].Kids = []ent{{}} },
		"a name fewer":      func(x *impl.Tree) { x.Objs[5].Kids = nil },
		"an order of names": func(x *impl.Tree) { k := x.Objs[9].Kids; k[0], k[1] = k[1], k[0] },
		"an object more":    func(x *impl.Tree) { x.Objs = append(x.Objs, impl.Obj{}) },
		"an object fewer":   func(x *impl.Tree) { x.Objs = x.Objs[:8] },
		"no objects":        func(x *impl.Tree) { x.Objs = nil },
	}
	for why, change := range others {
		a, b := plainTree(), plainTreeWith(change)
		if impl.TreeSame(a, b) || impl.TreeSame(b, a) || impl.TreeLike(a, b) || impl.TreeLike(b, a) {
			t.Errorf("%s is another one, but the trees are told as one", why)
		}
	}
}

func TestTreeLikeLeavesVersOut(t *testing.T) {
	for id := range impl.TreeMax {
		for _, ver := range []int{math.MinInt, -1, 0, 2, 1000001} {
			b := plainTreeWith(func(x *impl.Tree) { x.Objs[id].Ver = ver })
			same := plainTree().Objs[id].Ver == ver
			if impl.TreeSame(plainTree(), b) != same || impl.TreeSame(b, plainTree()) != same {
				t.Errorf("Ver %d of %d: same %v", ver, id, !same)
			}
			if !impl.TreeLike(plainTree(), b) || !impl.TreeLike(b, plainTree()) {
				t.Errorf("Ver %d of %d: not alike", ver, id)
			}
		}
	}
}

func TestTreeEmptyListsAreNil(t *testing.T) {
	empty := plainTreeWith(func(x *impl.Tree) {
		for id := range x.Objs {
			if x.Objs[id].Kids == nil {
				x.Objs[id].Kids = []ent{}
			}
		}
	})
	if !impl.TreeSame(plainTree(), empty) || !impl.TreeLike(empty, plainTree()) {
		t.Error("an empty list of names is another one than nil")
	}
	none := impl.Tree{Objs: []impl.Obj{}}
	if !impl.TreeSame(impl.Tree{}, none) || !impl.TreeLike(none, impl.Tree{}) {
		t.Error("an empty list of objects is another one than nil")
	}
}

func TestTreeLeavesArgumentsAsTheyAre(t *testing.T) {
	behind := ent{Name: "kept", Id: 77}
	x := plainTree()
	for id := range x.Objs {
		kids := append(x.Objs[id].Kids, behind)
		x.Objs[id].Kids = kids[:len(kids)-1]
	}
	was := copyTree(x)
	for _, id := range oddNumbers {
		impl.TreeFind(x, id, "b")
		impl.TreeHome(x, id)
		impl.TreeUnder(x, id, 9)
		impl.TreePath(x, id)
	}
	impl.TreeSame(x, was)
	impl.TreeLike(x, was)
	if !impl.TreeOk(x) || !impl.TreeSame(x, was) {
		t.Error("a tree was written into")
	}
	for id := range x.Objs {
		kids := x.Objs[id].Kids
		if got := kids[:len(kids)+1][len(kids)]; !reflect.DeepEqual(got, behind) {
			t.Errorf("behind the names of %d is %v", id, got)
		}
	}
}
