package impl

import (
	"slices"
	"strings"
)

// Ent is a name in a directory, and what it names.
type Ent struct {
	Name string
	Id   int
}

// Obj is nothing, a file or a directory; and how often it was turned.
type Obj struct {
	Kind int
	Ver  int
	Text string
	Kids []Ent
}

// Tree is objects by their numbers; 0 is the top.
type Tree struct {
	Objs []Obj
}

// Kinds of objects, and bounds.
const (
	TreeNone = 0
	TreeFile = 1
	TreeDir  = 2
	TreeMax  = 32
	TreeText = 12
	TreeName = 4
	TreeVer  = 1000000
)

const (
	treeTop   = 0
	treeNoOne = -1
)

// TreeOpen is a tree with nothing but its top.
func TreeOpen() Tree {
	t := Tree{Objs: make([]Obj, TreeMax)}
	t.Objs[treeTop] = Obj{Kind: TreeDir, Ver: 1}
	return t
}

// TreeWord says whether a text is a name.
func TreeWord(name string) bool {
	if len(name) < 1 || len(name) > TreeName {
		return false
	}
	for i := range len(name) {
		if !isLetter(name[i]) {
			return false
		}
	}
	return true
}

// TreeBody says whether a text can be in a file.
func TreeBody(text string) bool {
	if len(text) > TreeText {
		return false
	}
	for i := range len(text) {
		if !isLetter(text[i]) && !isFigure(text[i]) {
			return false
		}
	}
	return true
}

func isLetter(b byte) bool { return 'a' <= b && b <= 'z' }

func isFigure(b byte) bool { return '0' <= b && b <= '9' }

func isObject(id int) bool { return 0 <= id && id < TreeMax }

// TreeOk says whether a tree is one.
func TreeOk(t Tree) bool {
	_, ok := layOut(t)
	return ok
}

// TreeSame says whether two trees are one.
func TreeSame(a Tree, b Tree) bool {
	return slices.EqualFunc(a.Objs, b.Objs, func(x Obj, y Obj) bool {
		return x.Ver == y.Ver && objLike(x, y)
	})
}

// TreeLike says whether two trees are one, but for how often what was turned.
func TreeLike(a Tree, b Tree) bool {
	return slices.EqualFunc(a.Objs, b.Objs, objLike)
}

func objLike(a Obj, b Obj) bool {
	return a.Kind == b.Kind && a.Text == b.Text && slices.Equal(a.Kids, b.Kids)
}

// TreeFind is what a name names in a directory, or -1.
func TreeFind(t Tree, dir int, name string) int {
	all, ok := layOut(t)
	if !ok || !all.has(dir) {
		return treeNoOne
	}
	return findKid(all[dir].kids, name)
}

// TreeHome is the directory in which something is, or -1.
func TreeHome(t Tree, id int) int {
	all, ok := layOut(t)
	if !ok || !all.has(id) {
		return treeNoOne
	}
	return all[id].home
}

// TreeUnder says whether something is somewhere under a directory, or it itself.
func TreeUnder(t Tree, id int, dir int) bool {
	all, ok := layOut(t)
	if !ok || !all.has(id) {
		return false
	}
	for at := id; at != treeNoOne; at = all[at].home {
		if at == dir {
			return true
		}
	}
	return false
}

// TreePath is the names that lead to something.
func TreePath(t Tree, id int) string {
	all, ok := layOut(t)
	if !ok || !all.has(id) {
		return ""
	}
	if id == treeTop {
		return "/"
	}
	path := ""
	for at := id; at != treeTop; at = all[at].home {
		path = "/" + all[at].name + path
	}
	return path
}

// traits is what all objects have, of whatever kind; home and name are what the directories say of it.
type traits struct {
	kind int
	ver  int
	home int
	name string
}

func (x traits) there() bool { return x.kind != TreeNone }

// What is nothing may have been turned or not; what is something was turned when it was made.
func (x traits) verOk() bool {
	least := 0
	if x.there() {
		least = 1
	}
	return least <= x.ver && x.ver <= TreeVer
}

// node is an object that knows its way up.
type node struct {
	traits
	text string
	kids []Ent
}

func nodeOf(o Obj) node {
	return node{
		traits: traits{kind: o.Kind, ver: o.Ver, home: treeNoOne},
		text:   o.Text,
		kids:   o.Kids,
	}
}

func (n node) partsOk() bool {
	switch n.kind {
	case TreeNone:
		return n.text == "" && len(n.kids) == 0
	case TreeFile:
		return TreeBody(n.text) && len(n.kids) == 0
	case TreeDir:
		return n.text == "" && kidsOk(n.kids)
	}
	return false
}

func kidsOk(kids []Ent) bool {
	for i, kid := range kids {
		if !TreeWord(kid.Name) || !isObject(kid.Id) || kid.Id == treeTop {
			return false
		}
		if i > 0 && kids[i-1].Name >= kid.Name {
			return false
		}
	}
	return true
}

// findKid is what a name names among those of an ok directory, or -1.
func findKid(kids []Ent, name string) int {
	at, found := kidPlace(kids, name)
	if !found {
		return treeNoOne
	}
	return kids[at].Id
}

// kidPlace halves the names, as those of an ok directory are ascending; of a name that is not there it is where it would be.
func kidPlace(kids []Ent, name string) (int, bool) {
	return slices.BinarySearchFunc(kids, name, func(kid Ent, name string) int {
		return strings.Compare(kid.Name, name)
	})
}

// layout is the nodes of an ok tree by their numbers, so that a walk up need not look through all directories.
type layout [TreeMax]node

// layOut gives no layout of a tree that is not ok: whoever has one may walk up in it and comes to the top.
func layOut(t Tree) (*layout, bool) {
	if len(t.Objs) != TreeMax {
		return nil, false
	}
	all := &layout{}
	for id, o := range t.Objs {
		all[id] = nodeOf(o)
		if !all[id].verOk() || !all[id].partsOk() {
			return nil, false
		}
	}
	if all[treeTop].kind != TreeDir || !all.settle() || !all.comeToTop() {
		return nil, false
	}
	return all, true
}

func (all *layout) has(id int) bool {
	return isObject(id) && all[id].there()
}

// settle tells each node its home; it fails unless each but the top has just one.
func (all *layout) settle() bool {
	for dir := range all {
		for _, kid := range all[dir].kids {
			named := &all[kid.Id]
			if !named.there() || named.home != treeNoOne {
				return false
			}
			named.home, named.name = dir, kid.Name
		}
	}
	for id := range all {
		if id != treeTop && all[id].there() && all[id].home == treeNoOne {
			return false
		}
	}
	return true
}

// comeToTop fails at a ring: there each has a home, but TreeMax steps up do not lead out of it.
func (all *layout) comeToTop() bool {
climb:
	for id := range all {
		if !all[id].there() {
			continue
		}
		at := id
		for range TreeMax {
			if at == treeTop {
				continue climb
			}
			at = all[at].home
		}
		return false
	}
	return true
}
