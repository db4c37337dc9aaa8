package tests

import (
	"fmt"
	"math"
	"reflect"
	"slices"
	"strings"
	"testing"

	"loop.example/shieling/impl"
)

func TestMsgKindsAreAsTheDocumentNumbersThem(t *testing.T) {
	kinds := []int{impl.MsgFetch, impl.MsgTree, impl.MsgLog, impl.MsgVerdict}
	if !slices.Equal(kinds, []int{1, 2, 3, 4}) {
		t.Error(kinds)
	}
}

func TestMsgOkOfEachKind(t *testing.T) {
	for _, m := range plainMsgs(t) {
		wantMsg(t, modelText(m), m, true)
	}
	for why, m := range msgsNotOk(t) {
		wantMsg(t, why, m, false)
	}
}

func TestMsgKindsThatAreNone(t *testing.T) {
	for kind := -2; kind <= 7; kind++ {
		is := kind >= 1 && kind <= 4
		wantMsg(t, fmt.Sprint("bare, of kind ", kind), msg{Kind: kind, Seq: 1}, kind == 1)
		fine := msg{Kind: kind, Who: 1, Seq: 3}
		if kind == impl.MsgLog {
			fine.Log = plainLog(t)
		} else if kind != impl.MsgFetch {
			fine.Tree = turnedTree()
		}
		wantMsg(t, fmt.Sprint("with all that it has, of kind ", kind), fine, is)
	}
}

func TestMsgOwners(t *testing.T) {
	whos := []int{math.MinInt, -1, 0, 1, impl.LogWho - 1, impl.LogWho, math.MaxInt}
	seqs := []int{math.MinInt, -1, 0, 1, 2, impl.LogSeq - 1, impl.LogSeq, impl.LogSeq + 1, math.MaxInt}
	for _, m := range plainMsgs(t) {
		for _, who := range whos {
			for _, seq := range seqs {
				m.Who, m.Seq = who, seq
				if m.Kind == impl.MsgLog {
					m.Log.Who, m.Log.Seq = who, seq
				}
				ok := who >= 0 && who <= 2 && seq >= 1 && seq <= 1000
				wantMsg(t, fmt.Sprint("kind ", m.Kind, " of ", who, ".", seq), m, ok)
			}
		}
	}
}

// A log is of just the Who and the Seq of its message, whoever else it may be of.
func TestMsgLogOfSomebodyElse(t *testing.T) {
	for who := -1; who <= impl.LogWho; who++ {
		for other := -1; other <= impl.LogWho; other++ {
			for _, seq := range []int{0, 1, 3, 4, impl.LogSeq, impl.LogSeq + 1} {
				for _, another := range []int{0, 1, 3, 4, impl.LogSeq, impl.LogSeq + 1} {
					l := impl.LogMake(turnedTree(), other, another, plainList(t))
					m := msg{Kind: impl.MsgLog, Who: who, Seq: seq, Log: l}
					ok := who == other && seq == another && (owner{who, seq}).isOne()
					wantMsg(t, fmt.Sprint(other, ".", another, " as ", who, ".", seq), m, ok)
					wantServed(t, plainShop(), m)
				}
			}
		}
	}
}

func TestMsgVerdictsOfEachCode(t *testing.T) {
	for _, code := range []int{math.MinInt, -1, impl.ShopDone, impl.ShopClash, impl.ShopOld, impl.ShopForm, 4, math.MaxInt} {
		ok := code >= 0 && code <= 2
		wantMsg(t, fmt.Sprint("the code ", code), verdictMsg(1, 3, code, turnedTree()), ok)
		for _, m := range plainMsgs(t)[:3] {
			m.Code = code
			wantMsg(t, fmt.Sprint("kind ", m.Kind, " with the code ", code), m, code == 0)
		}
	}
}

// All parts together: each kind with each log, code and tree.
func TestMsgOkOfAllParts(t *testing.T) {
	logs := []impl.Log{
		{}, {Bases: []base{}, List: []op{}}, plainLog(t), {Who: 1, Seq: 3}, {Who: 2, Seq: 3}, {Who: 1, Seq: 4},
		{Who: 1}, {Seq: 3}, {Bases: []base{{}}}, {List: []op{{}}},
		plainLogWith(t, func(l *impl.Log) { l.Bases[0].Ver = -1 }),
		plainLogWith(t, func(l *impl.Log) { l.List[3].Kind = 9 }),
	}
	trees := []impl.Tree{{}, {Objs: []impl.Obj{}}, impl.TreeOpen(), turnedTree(), chainTree()}
	for _, x := range treesNotOk() {
		trees = append(trees, x)
	}
	fine := 0
	for kind := -1; kind <= 5; kind++ {
		for _, l := range logs {
			for code := -1; code <= impl.ShopForm; code++ {
				for _, x := range trees {
					m := msg{Kind: kind, Who: 1, Seq: 3, Log: l, Code: code, Tree: x}
					ok := modelMsgOk(m)
					wantMsg(t, fmt.Sprint(kind, l, code, len(x.Objs)), m, ok)
					if ok {
						fine++
					}
				}
			}
		}
	}
	// Of the empty lists there are two, of trees beside those that are not ok as well: "nothing" and "no objects".
	const noLogs, noTrees, okTrees, okLogs = 2, 4, 3, 2
	if want := noLogs*noTrees + noLogs*okTrees + okLogs*noTrees + noLogs*3*okTrees; fine != want {
		t.Errorf("%d are ok, not %d", fine, want)
	}
}

func TestMsgSame(t *testing.T) {
	others := map[string]func(m *msg){
		"the Kind":          func(m *msg) { m.Kind = impl.MsgTree },
		"no kind":           func(m *msg) { m.Kind = math.MinInt },
		"Who":               func(m *msg) { m.Who = 2 },
		"Seq":               func(m *msg) { m.Seq = 4 },
		"Who and Seq":       func(m *msg) { m.Who, m.Seq = m.Seq, m.Who },
		"the log's Who":     func(m *msg) { m.Log.Who = 2 },
		"the log's Seq":     func(m *msg) { m.Log.Seq = 4 },
		"a Base's Id":       func(m *msg) { m.Log.Bases[5].Id = 30 },
		"a Base's Ver":      func(m *msg) { m.Log.Bases[0].Ver++ },
		"a Base fewer":      func(m *msg) { m.Log.Bases = m.Log.Bases[:5] },
		"a Base more":       func(m *msg) { m.Log.Bases = append(m.Log.Bases, base{}) },
		"something done":    func(m *msg) { m.Log.List[0].Text = "y" },
		"one fewer":         func(m *msg) { m.Log.List = m.Log.List[:3] },
		"one more":          func(m *msg) { m.Log.List = append(m.Log.List, op{}) },
		"another order":     func(m *msg) { slices.Reverse(m.Log.List) },
		"no log":            func(m *msg) { m.Log = impl.Log{} },
		"the Code":          func(m *msg) { m.Code = impl.ShopDone },
		"another Code":      func(m *msg) { m.Code = math.MaxInt },
		"an object's kind":  func(m *msg) { m.Tree.Objs[1].Kind = impl.TreeDir },
		"an object's Ver":   func(m *msg) { m.Tree.Objs[7].Ver++ },
		"an object's text":  func(m *msg) { m.Tree.Objs[2].Text = "two" },
		"an object's names": func(m *msg) { m.Tree.Objs[5].Kids[0].Name = "c" },
		"a name's Id":       func(m *msg) { m.Tree.Objs[5].Kids[0].Id = 3 },
		"a name fewer":      func(m *msg) { m.Tree.Objs[5].Kids = nil },
		"an object fewer":   func(m *msg) { m.Tree.Objs = m.Tree.Objs[:31] },
		"an object more":    func(m *msg) { m.Tree.Objs = append(m.Tree.Objs, impl.Obj{}) },
		"no tree":           func(m *msg) { m.Tree = impl.Tree{} },
	}
	full := msg{Kind: impl.MsgLog, Who: 1, Seq: 3, Log: plainLog(t), Code: impl.ShopClash, Tree: turnedTree()}
	msgs := []msg{full, {}, fetchMsg(1, 3), treeMsg(1, 3, turnedTree()), logMsg(plainLog(t)), verdictMsg(1, 3, 0, turnedTree())}
	for _, change := range others {
		msgs = append(msgs, changed(full, change))
	}
	for i, a := range msgs {
		for j, b := range msgs {
			wasA, wasB := copyMsg(a), copyMsg(b)
			if got := impl.MsgSame(a, copyMsg(b)); got != (i == j) {
				t.Errorf("MsgSame of %v and %v: %v", a, b, got)
			}
			if !equalMsgs(a, wasA) || !equalMsgs(b, wasB) {
				t.Error("MsgSame leaves another message")
			}
		}
	}
}

// emptied is a message whose empty lists are not nil, and have room with something in it.
func emptied(m msg) msg {
	m = copyMsg(m)
	if len(m.Log.Bases) == 0 {
		m.Log.Bases = []base{{Id: 77}}[:0]
	}
	if len(m.Log.List) == 0 {
		m.Log.List = []op{{Kind: 77}}[:0]
	}
	if len(m.Tree.Objs) == 0 {
		m.Tree.Objs = []impl.Obj{{Kind: 77}}[:0]
	}
	for id := range m.Tree.Objs {
		if len(m.Tree.Objs[id].Kids) == 0 {
			m.Tree.Objs[id].Kids = []ent{{Name: "kept", Id: 77}}[:0]
		}
	}
	return m
}

func TestMsgOfEmptyLists(t *testing.T) {
	msgs := append(plainMsgs(t), msg{}, logMsg(impl.Log{Who: 2, Seq: 9}))
	for _, m := range msgs {
		e := emptied(m)
		if !impl.MsgSame(m, e) || !impl.MsgSame(e, m) || !impl.MsgSame(e, e) {
			t.Errorf("%v: with empty lists it is another one", m)
		}
		wantMsg(t, "with empty lists", e, modelMsgOk(m))
		got, back, came := wantServed(t, plainShop(), e)
		want := modelServe(plainShop(), m)
		if !equalShops(got, want.shop) || !slices.EqualFunc(back, want.back, equalMsgs) || came != want.came {
			t.Errorf("%v: with empty lists it is answered with %v, %v", m, back, came)
		}
	}
}

func TestMsgText(t *testing.T) {
	x := turnedTree()
	logOf := func(who int, seq int, lines string) msg {
		return logMsg(impl.LogMake(x, who, seq, opsOf(t, splitLines(lines)...)))
	}
	top := turnedTree()
	top.Objs[2].Ver = impl.TreeVer
	for _, c := range []struct {
		m    msg
		want string
	}{
		{fetchMsg(0, 1), "fetch 0 1"},
		{fetchMsg(1, 3), "fetch 1 3"},
		{fetchMsg(2, 1000), "fetch 2 1000"},
		{treeMsg(0, 10, x), "tree 0 10"},
		{treeMsg(2, 100, impl.TreeOpen()), "tree 2 100"},
		{verdictMsg(0, 1, impl.ShopDone, x), "verdict 0 1 done"},
		{verdictMsg(1, 3, impl.ShopClash, x), "verdict 1 3 clash"},
		{verdictMsg(2, 1000, impl.ShopOld, impl.TreeOpen()), "verdict 2 1000 old"},
		{logMsg(impl.Log{Who: 0, Seq: 1}), "log 0 1"},
		{logOf(2, 1000, ""), "log 2 1000"},
		{logOf(0, 1, "text 2 =x"), "log 0 1 2/114, text 2 =x"},
		{logOf(0, 1, "text 2 ="), "log 0 1 2/114, text 2 ="},
		{logOf(0, 2, "text 2 =x; text 2 =; text 2 =y1"), "log 0 2 2/114, text 2 =x, text 2 =, text 2 =y1"},
		{logOf(1, 7, "move 2 9 b 31 abcd"), "log 1 7 2/114 9/163 31/317, move 2 9 b 31 abcd"},
		{logOf(1, 8, "dir 8 0 x"), "log 1 8 0/100 8/0, dir 8 0 x"},
		{logOf(1, 9, "gone 7 0 x"), "log 1 9 0/100 7/4, gone 7 0 x"},
		{logMsg(impl.LogMake(top, 0, 1, opsOf(t, "text 2 =x"))), "log 0 1 2/1000000, text 2 =x"},
		{
			logMsg(plainLog(t)),
			"log 1 3 1/107 2/114 5/135 8/0 9/163 31/317, text 2 =x, file 8 9 c, move 1 5 b 31 b, gone 2 9 b",
		},
	} {
		wantMsg(t, c.want, c.m, true)
		if got := impl.MsgText(c.m); got != c.want {
			t.Errorf("%q, not %q", got, c.want)
		}
	}
}

func TestMsgTextOfMost(t *testing.T) {
	l := impl.LogMake(turnedTree(), 1, 3, slimOfMost())
	wantMsg(t, "a log of most", logMsg(l), true)
	text := impl.MsgText(logMsg(l))
	if strings.Count(text, "/") != impl.TreeMax || strings.Count(text, ", dir ") != impl.ActMost {
		t.Error(text)
	}
	l.List = append(l.List, l.List[0])
	wantMsg(t, "a log of one more", logMsg(l), false)
}

func TestMsgServe(t *testing.T) {
	s, back, came := wantServed(t, plainShop(), fetchMsg(1, 3))
	if came || !equalShops(s, plainShop()) || !equalMsgs(back[0], treeMsg(1, 3, turnedTree())) {
		t.Errorf("a fetch: %v, %v", back, came)
	}
	s, back, came = wantServed(t, plainShop(), logMsg(plainLog(t)))
	if !came || impl.TreePath(s.Tree, 8) != "/a/c" || !equalMsgs(back[0], verdictMsg(1, 3, impl.ShopDone, s.Tree)) {
		t.Errorf("a log: %v, %v", back, came)
	}
	if impl.TreeSame(s.Tree, turnedTree()) || lastOf(s, 1) != lastLog(1, 3, impl.ShopDone) {
		t.Errorf("a log leaves %v", s)
	}
	for _, m := range []msg{plainMsgs(t)[1], plainMsgs(t)[3], back[0]} {
		got, none, came := wantServed(t, s, m)
		if came || len(none) != 0 || !equalShops(got, s) {
			t.Errorf("%v: %v, %v", m, none, came)
		}
	}
}

// Whoever asks, and with whatever number, is answered; the last logs do not matter.
func TestMsgServeOfEachFetch(t *testing.T) {
	shops := []impl.Shop{impl.ShopOpen(), plainShop(), {Tree: chainTree()}}
	for _, s := range shops {
		for who := range impl.LogWho {
			for _, seq := range []int{1, 3, 4, 5, 7, 8, impl.LogSeq} {
				_, back, _ := wantServed(t, s, fetchMsg(who, seq))
				wantServedAgain(t, s, fetchMsg(who, seq), back)
			}
		}
	}
}

// Each way in which a log can end, and the same one once more.
func TestMsgServeOfEachVerdict(t *testing.T) {
	barred := impl.LogMake(turnedTree(), 1, 3, opsOf(t, "text 2 =x", "gone 9 0 a"))
	for _, c := range []struct {
		why  string
		log  impl.Log
		code int
		came bool
	}{
		{"it fits", plainLog(t), impl.ShopDone, true},
		{"the first of all", impl.Log{Who: 1, Seq: 1}, impl.ShopDone, true},
		{"the next one", impl.LogMake(turnedTree(), 0, 5, plainList(t)), impl.ShopDone, true},
		{"one is left out", impl.LogMake(turnedTree(), 2, impl.LogSeq, plainList(t)), impl.ShopDone, true},
		{"something was turned", plainLogWith(t, func(l *impl.Log) { l.Bases[3].Ver++ }), impl.ShopClash, false},
		{"something can not be done", barred, impl.ShopClash, false},
		{"it came in before", impl.LogMake(turnedTree(), 0, 4, plainList(t)), impl.ShopDone, false},
		{"it clashed before", impl.LogMake(turnedTree(), 2, 7, plainList(t)), impl.ShopClash, false},
		{"it is old", impl.LogMake(turnedTree(), 0, 3, plainList(t)), impl.ShopOld, false},
		{"it is long past", impl.LogMake(turnedTree(), 2, 1, nil), impl.ShopOld, false},
	} {
		t.Run(c.why, func(t *testing.T) {
			s := wantVerdict(t, plainShop(), c.log, c.code, c.came)
			if !c.came && !impl.TreeSame(s.Tree, turnedTree()) {
				t.Error("the tree is another one")
			}
			if again := wantVerdict(t, s, c.log, c.code, false); !equalShops(again, s) {
				t.Errorf("once more: %v, not %v", again, s)
			}
		})
	}
}

// An answer has the tree as it is then: not as it was when the log came first.
func TestMsgServeHasTheTreeAsItIsThen(t *testing.T) {
	l := plainLog(t)
	s := wantVerdict(t, plainShop(), l, impl.ShopDone, true)
	before := copyTree(s.Tree)
	s = wantVerdict(t, s, impl.LogMake(s.Tree, 0, 5, opsOf(t, "text 8 =later", "dir 10 0 q")), impl.ShopDone, true)
	if impl.TreeSame(before, s.Tree) {
		t.Fatal("the tree is as it was")
	}
	for _, m := range []msg{logMsg(l), fetchMsg(1, 3), fetchMsg(0, 1), logMsg(impl.Log{Who: 0, Seq: 1})} {
		_, back, _ := wantServed(t, s, m)
		if back[0].Tree.Objs[8].Text != "later" || impl.TreePath(back[0].Tree, 10) != "/q" {
			t.Errorf("%v is answered with %v", m, back)
		}
	}
	clash := impl.LogMake(before, 2, 8, opsOf(t, "text 8 =mine"))
	s = wantVerdict(t, s, clash, impl.ShopClash, false)
	if s.Tree.Objs[8].Text != "later" {
		t.Error("what clashed came in")
	}
}

// Another log with the number of the last one is answered as that one was, and does not come in.
func TestMsgServeOfAnotherLogOfTheSameSeq(t *testing.T) {
	s := wantVerdict(t, plainShop(), plainLog(t), impl.ShopDone, true)
	for _, lines := range []string{"", "text 8 =y", "dir 10 0 q"} {
		list := opsOf(t, splitLines(lines)...)
		for who, code := range map[int]int{0: impl.ShopDone, 1: impl.ShopDone, 2: impl.ShopClash} {
			l := impl.LogMake(s.Tree, who, lastOf(s, who).Seq, list)
			if got := wantVerdict(t, s, l, code, false); !equalShops(got, s) {
				t.Errorf("%v leaves another server", l)
			}
		}
	}
}

// A log of none comes in as well, though it leaves the tree as it is.
func TestMsgServeOfALogOfNone(t *testing.T) {
	s := wantVerdict(t, impl.ShopOpen(), impl.Log{Who: 2, Seq: 1}, impl.ShopDone, true)
	if !impl.TreeSame(s.Tree, impl.TreeOpen()) || lastOf(s, 2) != lastLog(2, 1, impl.ShopDone) {
		t.Error(s)
	}
	wantVerdict(t, s, impl.Log{Who: 2, Seq: 1}, impl.ShopDone, false)
}

func TestMsgServeOfMessagesThatAreNotOk(t *testing.T) {
	shops := []impl.Shop{impl.ShopOpen(), plainShop()}
	shops = append(shops, plainShopWith(func(s *impl.Shop) { s.Dones = slices.Insert(s.Dones, 1, lastLog(1, 3, impl.ShopDone)) }))
	for why, m := range msgsNotOk(t) {
		for _, s := range shops {
			got, back, came := wantServed(t, s, m)
			if len(back) != 0 || came || !equalShops(got, s) {
				t.Errorf("%s: %v, %v, %v", why, got, back, came)
			}
		}
	}
}

func TestMsgServeOfServersThatAreNotOk(t *testing.T) {
	msgs := append(plainMsgs(t), msg{}, logMsg(impl.Log{Who: 0, Seq: 4}), fetchMsg(1, 0), fetchMsg(0, 1))
	for why, s := range shopsNotOk() {
		was := copyShop(s)
		for _, m := range msgs {
			wasMsg := copyMsg(m)
			if got, back, came := impl.MsgServe(s, m); !isNoShop(got) || len(back) != 0 || came {
				t.Errorf("%s: MsgServe = %v, %v, %v", why, got, back, came)
			}
			if !equalMsgs(m, wasMsg) {
				t.Errorf("%s: the message is another one", why)
			}
		}
		if !equalShops(s, was) {
			t.Errorf("%s: the server is another one", why)
		}
	}
}

// Promise 7, of drawn servers and messages, one behind the other.
func TestMsgServeAnswersEachFetchAndEachLog(t *testing.T) {
	seen := map[string]int{}
	for play := range 60 {
		dice := msgDice{shopDice: shopDice{slimDice: slimDice{actDice: actDice(500 + play)}}}
		s := dice.shop()
		cameIn := map[owner]int{}
		for range 40 {
			m := dice.message(t, s)
			countServe(seen, s, m)
			next, back, came := wantServed(t, s, m)
			wantServedAgainIfAsked(t, next, m, back)
			if came {
				cameIn[owner{m.Who, m.Seq}]++
				dice.trees = append(dice.trees, next.Tree)
			}
			dice.sent = append(dice.sent, back...)
			s = next
		}
		for o, many := range cameIn {
			if many != 1 {
				t.Errorf("play %d: the log %v came in %d times", play, o, many)
			}
		}
	}
	for _, what := range []string{"fetch", "tree", "verdict", "not ok", "came in", "clash", "again", "old"} {
		if seen[what] < 20 {
			t.Errorf("%s: %d times only", what, seen[what])
		}
	}
}

// wantServedAgainIfAsked leaves out what is answered with nothing.
func wantServedAgainIfAsked(t *testing.T, s impl.Shop, m msg, first []msg) {
	t.Helper()
	if len(first) > 0 {
		wantServedAgain(t, s, m, first)
	}
}

func countServe(seen map[string]int, s impl.Shop, m msg) {
	if !modelMsgOk(m) {
		seen["not ok"]++
		return
	}
	if m.Kind != impl.MsgLog {
		seen[map[int]string{impl.MsgFetch: "fetch", impl.MsgTree: "tree", impl.MsgVerdict: "verdict"}[m.Kind]]++
		return
	}
	took := modelTake(s, m.Log)
	switch {
	case took.code == impl.ShopOld:
		seen["old"]++
	case !took.now:
		seen["again"]++
	case took.code == impl.ShopClash:
		seen["clash"]++
	default:
		seen["came in"]++
	}
}

// roomyMsg has spare room behind all lists that are not empty, with something in it.
func roomyMsg(m msg) msg {
	m.Log = roomyLog(m.Log)
	if len(m.Tree.Objs) > 0 {
		m.Tree = roomyTree()
	}
	return m
}

// wantMsgRoomKept asks that neither is another one, up to behind the ends of their lists.
func wantMsgRoomKept(t *testing.T, why string, s impl.Shop, m msg, was msg) {
	t.Helper()
	wantRoomKept(t, why, s, m.Log, was.Log)
	if len(was.Tree.Objs) > 0 && !reflect.DeepEqual(withRoom(m.Tree), withRoom(roomyTree())) {
		t.Errorf("%s: the message's tree, or what is behind its lists' ends, is another one", why)
	}
	if m.Kind != was.Kind || m.Who != was.Who || m.Seq != was.Seq || m.Code != was.Code {
		t.Errorf("%s: the message is another one", why)
	}
}

// wantPartsApart writes into each part of an answer, spare room included, and looks at the others.
func wantPartsApart(t *testing.T, why string, s impl.Shop, back []msg) {
	t.Helper()
	wasShop := copyShop(s)
	wantListsApart(t, why, s.Tree)
	for i := range back {
		wantListsApart(t, why, back[i].Tree)
		scribble(back[i].Tree)
		fill(back[i].Log.Bases, base{Id: -9})
		fill(back[i].Log.List, op{Kind: -9})
	}
	if !equalShops(s, wasShop) {
		t.Errorf("%s: the server and what goes back share memory", why)
	}
	fill(back, msg{Kind: -9})
	fill(s.Dones, lastLog(-9, -9, -9))
	if !impl.TreeSame(s.Tree, wasShop.Tree) {
		t.Errorf("%s: the tree and Dones share memory", why)
	}
	scribble(s.Tree)
}

func TestMsgAnswersAreNewMemory(t *testing.T) {
	msgs := map[string]msg{
		"fetch":         plainMsgs(t)[0],
		"tree":          plainMsgs(t)[1],
		"came in":       plainMsgs(t)[2],
		"verdict":       plainMsgs(t)[3],
		"nothing":       {},
		"not ok":        changed(plainMsgs(t)[2], func(m *msg) { m.Who = 2 }),
		"a log of none": logMsg(impl.Log{Who: 1, Seq: 3}),
		"clash":         changed(plainMsgs(t)[2], func(m *msg) { m.Log.Bases[2].Ver++ }),
		"again":         logMsg(plainLogWith(t, func(l *impl.Log) { l.Who, l.Seq = 0, 4 })),
		"clash again":   logMsg(plainLogWith(t, func(l *impl.Log) { l.Who, l.Seq = 2, 7 })),
		"old":           logMsg(plainLogWith(t, func(l *impl.Log) { l.Who, l.Seq = 2, 6 })),
	}
	for why, was := range msgs {
		s, m := roomyShop(), roomyMsg(was)
		want := modelServe(plainShop(), was)
		first, back, _ := impl.MsgServe(s, m)
		wantPartsApart(t, why, first, back)
		impl.MsgOk(m)
		impl.MsgSame(m, m)
		impl.MsgText(m)
		wantMsgRoomKept(t, why, s, m, was)
		again, back, came := impl.MsgServe(s, m)
		// A later change of what was handed in is not seen in the answer.
		scribble(s.Tree)
		scribble(m.Tree)
		fill(s.Dones, lastLog(-8, -8, -8))
		fill(m.Log.Bases, base{Id: -8})
		fill(m.Log.List, op{Kind: -8})
		if !equalShops(again, want.shop) || !slices.EqualFunc(back, want.back, equalMsgs) || came != want.came {
			t.Errorf("%s: then %v, %v, %v", why, again, back, came)
		}
	}
}
