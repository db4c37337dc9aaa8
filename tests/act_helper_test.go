package tests

import (
	"reflect"
	"slices"
	"strings"
	"testing"

	"loop.example/shieling/impl"
)

// turnedTree is plainTree with another Ver for each object, so that one that is turned for another is seen.
func turnedTree() impl.Tree {
	x := plainTree()
	for id := range x.Objs {
		if x.Objs[id].Kind != impl.TreeNone {
			x.Objs[id].Ver = 100 + 7*id
		}
	}
	return x
}

// opsOf reads lines; what it can not read is a fault of the test.
func opsOf(t *testing.T, lines ...string) []op {
	t.Helper()
	var list []op
	for _, line := range lines {
		x, ok := impl.OpRead(line)
		if !ok {
			t.Fatalf("%q is no line", line)
		}
		list = append(list, x)
	}
	return list
}

// wantAct asks for all that promise 3 says of one thing that is done of an ok tree; it gives the tree behind it.
func wantAct(t *testing.T, x impl.Tree, o op, code int) impl.Tree {
	t.Helper()
	was := copyTree(x)
	got, c := impl.ActDo(x, o)
	if c != code {
		t.Errorf("%q ends with %d, not %d", lineText(o), c, code)
	}
	if !reflect.DeepEqual(x, was) {
		t.Fatalf("%q: the tree that was handed in is another one", lineText(o))
	}
	if !impl.TreeOk(got) {
		t.Fatalf("%q leaves no tree: %v", lineText(o), got)
	}
	if c != impl.ActFine && !impl.TreeSame(got, was) {
		t.Errorf("%q can not be done, but leaves another tree", lineText(o))
	}
	named := impl.OpIds(o)
	for id := range got.Objs {
		if !slices.Contains(named, id) && !reflect.DeepEqual(plainObj(got.Objs[id]), plainObj(was.Objs[id])) {
			t.Errorf("%q turns %d, which it does not name", lineText(o), id)
		}
	}
	return got
}

func plainObj(o impl.Obj) impl.Obj {
	o.Kids = append([]ent{}, o.Kids...)
	return o
}

// lineText also tells of what is not ok which one it is.
func lineText(o op) string {
	if o.Kind < 1 || o.Kind > 5 {
		return "no kind"
	}
	return lineOf(o)
}

// wantNone asks that nothing is done of a tree that is not ok.
func wantNone(t *testing.T, why string, x impl.Tree, o op) {
	t.Helper()
	was := copyTree(x)
	if got, code := impl.ActDo(x, o); len(got.Objs) != 0 || code != impl.ActForm {
		t.Errorf("%s: ActDo = %v, %d", why, got, code)
	}
	for _, list := range [][]op{nil, {o}, {o, o}} {
		if got, code, at := impl.ActAll(x, list); len(got.Objs) != 0 || code != impl.ActForm || at != 0 {
			t.Errorf("%s: ActAll of %d = %v, %d, %d", why, len(list), got, code, at)
		}
	}
	if !reflect.DeepEqual(x, was) {
		t.Errorf("%s: the tree is another one", why)
	}
}

// actModel tells chapter 3 another way: what is where, object by object, and no lists of names.
type actModel struct {
	kind, ver [impl.TreeMax]int
	text      [impl.TreeMax]string
	home      map[int]actPlace
}

type actPlace struct {
	dir  int
	name string
}

func modelOf(x impl.Tree) *actModel {
	m := &actModel{home: map[int]actPlace{}}
	for id, o := range x.Objs {
		m.kind[id], m.ver[id], m.text[id] = o.Kind, o.Ver, o.Text
		for _, kid := range o.Kids {
			m.home[kid.Id] = actPlace{id, kid.Name}
		}
	}
	return m
}

func (m *actModel) tree() impl.Tree {
	x := impl.Tree{Objs: make([]impl.Obj, impl.TreeMax)}
	for id := range x.Objs {
		x.Objs[id] = impl.Obj{Kind: m.kind[id], Ver: m.ver[id], Text: m.text[id]}
	}
	for id, p := range m.home {
		x.Objs[p.dir].Kids = append(x.Objs[p.dir].Kids, ent{Name: p.name, Id: id})
	}
	for id := range x.Objs {
		slices.SortFunc(x.Objs[id].Kids, func(a ent, b ent) int { return strings.Compare(a.Name, b.Name) })
	}
	return x
}

func (m *actModel) taken(p actPlace) bool {
	for _, q := range m.home {
		if p == q {
			return true
		}
	}
	return false
}

func (m *actModel) hasKids(id int) bool {
	for _, p := range m.home {
		if p.dir == id {
			return true
		}
	}
	return false
}

func (m *actModel) under(id int, dir int) bool {
	for {
		if id == dir {
			return true
		}
		p, ok := m.home[id]
		if !ok {
			return false
		}
		id = p.dir
	}
}

// do is the code of something that is ok; with ActFine it is done.
func (m *actModel) do(o op) int {
	code := m.bar(o)
	if code != impl.ActFine {
		return code
	}
	switch o.Kind {
	case impl.OpFile, impl.OpDir:
		m.kind[o.Id] = map[int]int{impl.OpFile: impl.TreeFile, impl.OpDir: impl.TreeDir}[o.Kind]
		m.ver[o.Id] = 1
		m.home[o.Id] = actPlace{o.Dir, o.Name}
		m.ver[o.Dir]++
	case impl.OpGone:
		m.kind[o.Id], m.text[o.Id] = impl.TreeNone, ""
		delete(m.home, o.Id)
		m.ver[o.Dir]++
		m.ver[o.Id]++
	case impl.OpMove:
		m.home[o.Id] = actPlace{o.Dir2, o.Name2}
		for dir := range map[int]bool{o.Dir: true, o.Dir2: true} {
			m.ver[dir]++
		}
	case impl.OpText:
		m.text[o.Id] = o.Text
		m.ver[o.Id]++
	}
	return code
}

func (m *actModel) bar(o op) int {
	from, to := actPlace{o.Dir, o.Name}, actPlace{o.Dir2, o.Name2}
	at, somewhere := m.home[o.Id]
	here := somewhere && at == from
	moves, makes := o.Kind == impl.OpMove, o.Kind == impl.OpFile || o.Kind == impl.OpDir
	worn := slices.ContainsFunc(impl.OpIds(o), func(id int) bool { return m.ver[id] == impl.TreeVer })
	switch {
	case worn:
		return impl.ActForm
	case o.Kind == impl.OpText && m.kind[o.Id] != impl.TreeFile:
		return impl.ActKind
	case o.Kind == impl.OpText:
		return impl.ActFine
	case m.kind[o.Dir] != impl.TreeDir || moves && m.kind[o.Dir2] != impl.TreeDir:
		return impl.ActDirs
	case makes && m.taken(from):
		return impl.ActThere
	case makes && (m.kind[o.Id] != impl.TreeNone || m.ver[o.Id] != 0):
		return impl.ActUsed
	case !makes && !here:
		return impl.ActNone
	case moves && m.taken(to):
		return impl.ActThere
	case moves && m.under(o.Dir2, o.Id):
		return impl.ActRing
	case o.Kind == impl.OpGone && m.hasKids(o.Id):
		return impl.ActFull
	}
	return impl.ActFine
}

// actDice gives the same numbers in each run.
type actDice uint64

func (d *actDice) below(n int) int {
	*d = *d*6364136223846793005 + 1442695040888963407
	return int(uint64(*d)>>33) % n
}

// op is something ok, half of the time of what is there, so that much of it can be done.
func (d *actDice) op(x impl.Tree) op {
	names := []string{"a", "b", "c", "abcd"}
	kinds := []int{impl.OpFile, impl.OpDir, impl.OpDir, impl.OpGone, impl.OpMove, impl.OpMove, impl.OpText}
	o := op{Kind: kinds[d.below(len(kinds))], Id: 1 + d.below(impl.TreeMax-1)}
	if o.Kind == impl.OpText {
		o.Text = []string{"", "one", "abcdef012345"}[d.below(3)]
		return o
	}
	o.Dir, o.Name = d.below(impl.TreeMax), names[d.below(len(names))]
	if home := impl.TreeHome(x, o.Id); home >= 0 && d.below(4) > 0 {
		o.Dir = home
		at := slices.IndexFunc(x.Objs[home].Kids, func(kid ent) bool { return kid.Id == o.Id })
		o.Name = x.Objs[home].Kids[at].Name
	} else if d.below(2) > 0 {
		o.Dir = d.dirOf(x)
	}
	if o.Kind == impl.OpMove {
		o.Dir2, o.Name2 = d.dirOf(x), names[d.below(len(names))]
	}
	return o
}

func (d *actDice) dirOf(x impl.Tree) int {
	for {
		if id := d.below(impl.TreeMax); x.Objs[id].Kind == impl.TreeDir {
			return id
		}
	}
}
