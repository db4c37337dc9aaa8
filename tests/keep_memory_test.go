package tests

import (
	"cmp"
	"fmt"
	"reflect"
	"slices"
	"testing"

	"loop.example/shieling/impl"
)

// roomyList has spare room behind its end, with something in it.
func roomyList(list []op) []op {
	list = append(slices.Clone(list), op{Kind: 77}, op{Kind: 78})
	return list[:len(list)-2]
}

// roomyKeep has spare room behind all lists; it takes a client whose Base is turnedTree.
func roomyKeep(k keep) keep {
	k.Base, k.Sent, k.List = roomyTree(), roomyList(k.Sent), roomyList(k.List)
	shelf := append(slices.Clone(k.Shelf), []op{{Kind: 77}}, []op{{Kind: 78}})
	for i := range shelf {
		shelf[i] = roomyList(shelf[i])
	}
	k.Shelf = shelf[:len(shelf)-2]
	return k
}

// keepRoom is all lists of a client of roomyKeep, with the two behind their ends.
func keepRoom(k keep) any {
	two := func(list []op) []op { return slices.Clone(list[:len(list)+2]) }
	var shelf [][]op
	for _, list := range k.Shelf[:len(k.Shelf)+2] {
		shelf = append(shelf, two(list))
	}
	return []any{k.Who, k.Seq, k.Waits, withRoom(k.Base), two(k.Sent), two(k.List), shelf}
}

// keepAnswer is all that a function of chapter 8 answers.
type keepAnswer struct {
	Keep keep
	Msgs []msg
	View impl.Tree
}

func copyAnswer(a keepAnswer) keepAnswer {
	c := keepAnswer{Keep: copyKeep(a.Keep), View: copyTree(a.View)}
	for _, m := range a.Msgs {
		c.Msgs = append(c.Msgs, copyMsg(m))
	}
	return c
}

func equalAnswers(a keepAnswer, b keepAnswer) bool {
	return equalKeeps(a.Keep, b.Keep) && slices.EqualFunc(a.Msgs, b.Msgs, equalMsgs) &&
		slices.EqualFunc(a.View.Objs, b.View.Objs, sameObj)
}

// spoil writes into all lists of an answer, spare room included; the inner ones first.
func spoil(a keepAnswer) {
	for _, m := range a.Msgs {
		fill(m.Log.Bases, base{Id: -9})
		fill(m.Log.List, op{Kind: -9})
		scribble(m.Tree)
	}
	fill(a.Msgs, msg{Kind: -9})
	scribble(a.Keep.Base)
	scribble(a.View)
	for _, list := range append([][]op{a.Keep.Sent, a.Keep.List}, a.Keep.Shelf...) {
		fill(list, op{Kind: -9})
	}
	fill(a.Keep.Shelf, []op{{Kind: -9}})
}

// room is where a list is, spare room included.
type room struct {
	name     string
	from, to uintptr
}

// roomsOf is the rooms of all lists in a value, down to the innermost.
func roomsOf(name string, v reflect.Value) []room {
	var rooms []room
	switch v.Kind() {
	case reflect.Struct:
		for i := range v.NumField() {
			rooms = append(rooms, roomsOf(name+"."+v.Type().Field(i).Name, v.Field(i))...)
		}
	case reflect.Slice:
		if size := v.Type().Elem().Size() * uintptr(v.Cap()); size > 0 {
			rooms = append(rooms, room{name, v.Pointer(), v.Pointer() + size})
		}
		for i := range v.Len() {
			rooms = append(rooms, roomsOf(fmt.Sprint(name, " ", i), v.Index(i))...)
		}
	}
	return rooms
}

// wantApart asks that no two rooms share any memory.
func wantApart(t *testing.T, why string, rooms []room) {
	t.Helper()
	slices.SortFunc(rooms, func(a room, b room) int { return cmp.Compare(a.from, b.from) })
	for i := 1; i < len(rooms); i++ {
		if rooms[i].from < rooms[i-1].to {
			t.Errorf("%s: %s and %s share memory", why, rooms[i-1].name, rooms[i].name)
		}
	}
}

// keepCalls is a call of each function and each way through it, by name.
func keepCalls(t *testing.T) map[string]func(k keep, m msg) keepAnswer {
	t.Helper()
	do := func(line string) func(k keep, m msg) keepAnswer {
		o := op{}
		if line != "" {
			o = opsOf(t, line)[0]
		}
		return func(k keep, m msg) keepAnswer { got, _ := impl.KeepDo(k, o); return keepAnswer{Keep: got} }
	}
	clear := func(i int) func(k keep, m msg) keepAnswer {
		return func(k keep, m msg) keepAnswer { return keepAnswer{Keep: impl.KeepClear(k, i)} }
	}
	return map[string]func(k keep, m msg) keepAnswer{
		"view":        func(k keep, m msg) keepAnswer { return keepAnswer{View: impl.KeepView(k)} },
		"done":        do("dir 12 0 n"),
		"not done":    do("gone 9 0 a"),
		"not ok":      do(""),
		"sent":        func(k keep, m msg) keepAnswer { got, out := impl.KeepSend(k); return keepAnswer{Keep: got, Msgs: out} },
		"taken":       func(k keep, m msg) keepAnswer { got, _ := impl.KeepTake(k, m); return keepAnswer{Keep: got} },
		"first":       clear(0),
		"second":      clear(1),
		"none at all": clear(7),
	}
}

func keepsToCall(t *testing.T) map[string]keep {
	t.Helper()
	last := func(k *keep) { k.Seq = impl.LogSeq }
	return map[string]keep{
		"one that waits":             waitingKeep(t),
		"one that rests":             restingKeep(t),
		"one with nothing done":      changedKeep(restingKeep(t), func(k *keep) { k.List, k.Shelf = nil, nil }),
		"one that waits for one":     changedKeep(waitingKeep(t), func(k *keep) { k.List, k.Shelf = nil, [][]op{nil, {}} }),
		"one with a full shelf":      withShelf(waitingKeep(t), impl.KeepShelf),
		"one at the end":             changedKeep(restingKeep(t), last),
		"one with a list of nothing": changedKeep(restingKeep(t), func(k *keep) { k.List = opsOf(t, "dir 8 0 x", "gone 8 0 x") }),
		"one of most":                changedKeep(restingKeep(t), func(k *keep) { k.List = textsOf(impl.ActMost) }),
		"one that is not ok":         changedKeep(waitingKeep(t), func(k *keep) { k.Waits = false }),
	}
}

// msgsToCall is what comes; their trees are roomyTree, which is as turnedTree is.
func msgsToCall() map[string]msg {
	return map[string]msg{
		"a tree":                   treeMsg(1, 3, turnedTree()),
		"a tree of another client": treeMsg(2, 3, turnedTree()),
		"done":                     verdictMsg(1, 3, impl.ShopDone, turnedTree()),
		"clash":                    verdictMsg(1, 3, impl.ShopClash, turnedTree()),
		"nothing":                  {},
	}
}

func TestKeepAnswersAreNewMemory(t *testing.T) {
	for who, given := range keepsToCall(t) {
		for what, came := range msgsToCall() {
			for name, call := range keepCalls(t) {
				if what != "a tree" && name != "taken" {
					continue
				}
				why := fmt.Sprint(who, ", ", what, ", ", name)
				wantNewMemory(t, why, given, came, call)
			}
		}
	}
}

func wantNewMemory(t *testing.T, why string, given keep, came msg, call func(k keep, m msg) keepAnswer) {
	t.Helper()
	k, m := roomyKeep(given), roomyMsg(came)
	wasKeep, wasTree := keepRoom(k), roomyTree()
	want := copyAnswer(call(given, came))
	first := call(k, m)
	rooms := roomsOf("answer", reflect.ValueOf(first))
	rooms = append(rooms, roomsOf("client", reflect.ValueOf(k))...)
	wantApart(t, why, append(rooms, roomsOf("message", reflect.ValueOf(m))...))
	spoil(first)
	impl.KeepOk(k)
	if !reflect.DeepEqual(keepRoom(k), wasKeep) {
		t.Errorf("%s: the client, or what is behind its lists' ends, is another one", why)
	}
	if len(m.Tree.Objs) > 0 && !reflect.DeepEqual(withRoom(m.Tree), withRoom(wasTree)) {
		t.Errorf("%s: the message's tree, or what is behind its lists' ends, is another one", why)
	}
	again := call(k, m)
	if !equalAnswers(again, want) {
		t.Errorf("%s: %v, and then %v", why, want, again)
	}
	// A later change of what was handed in is not seen in the answer.
	scribble(k.Base)
	scribble(m.Tree)
	for _, list := range append([][]op{k.Sent, k.List}, k.Shelf...) {
		fill(list, op{Kind: -8})
	}
	fill(k.Shelf, []op{{Kind: -8}})
	if !equalAnswers(again, want) {
		t.Errorf("%s: the answer is another one behind a change of what was handed in", why)
	}
}

// A client with empty lists that are not nil is the same one.
func TestKeepOfEmptyLists(t *testing.T) {
	for who, given := range keepsToCall(t) {
		k := roomyKeep(given)
		if impl.KeepOk(k) != modelKeepOk(given) {
			t.Errorf("%s: with empty lists it is ok: %v", who, impl.KeepOk(k))
		}
		for what, m := range msgsToCall() {
			for name, call := range keepCalls(t) {
				if got, want := call(k, emptied(m)), call(given, m); !equalAnswers(got, want) {
					t.Errorf("%s, %s, %s: with empty lists %v, not %v", who, what, name, got, want)
				}
			}
		}
	}
}
