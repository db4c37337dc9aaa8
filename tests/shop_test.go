package tests

import (
	"math"
	"reflect"
	"slices"
	"testing"

	"loop.example/shieling/impl"
)

func TestShopCodes(t *testing.T) {
	codes := []int{impl.ShopDone, impl.ShopClash, impl.ShopOld, impl.ShopForm}
	if !slices.Equal(codes, []int{0, 1, 2, 3}) {
		t.Error(codes)
	}
}

func TestShopOpen(t *testing.T) {
	s := impl.ShopOpen()
	if !impl.TreeSame(s.Tree, impl.TreeOpen()) || len(s.Dones) != 0 {
		t.Errorf("%v", s)
	}
	if !impl.ShopOk(s) {
		t.Error("not ok")
	}
	scribble(s.Tree)
	if again := impl.ShopOpen(); !impl.TreeSame(again.Tree, impl.TreeOpen()) {
		t.Errorf("then %v", again)
	}
}

func TestShopOk(t *testing.T) {
	for _, dones := range [][]done{
		nil,
		{},
		{lastLog(0, 1, impl.ShopDone)},
		{lastLog(impl.LogWho-1, impl.LogSeq, impl.ShopClash)},
		{lastLog(0, impl.LogSeq, impl.ShopClash), lastLog(1, 1, impl.ShopDone)},
		{lastLog(0, 5, impl.ShopDone), lastLog(1, 5, impl.ShopDone), lastLog(2, 5, impl.ShopDone)},
		{lastLog(0, 9, impl.ShopClash), lastLog(1, 8, impl.ShopDone), lastLog(2, 7, impl.ShopClash)},
		plainShop().Dones[:0],
	} {
		for _, x := range []impl.Tree{impl.TreeOpen(), turnedTree(), chainTree()} {
			if !impl.ShopOk(impl.Shop{Tree: x, Dones: dones}) {
				t.Errorf("%v: not ok", dones)
			}
		}
	}
	for why, s := range shopsNotOk() {
		was := copyShop(s)
		if impl.ShopOk(s) {
			t.Errorf("%s: ok", why)
		}
		if !equalShops(s, was) {
			t.Errorf("%s: ShopOk leaves another server", why)
		}
	}
	if impl.ShopOk(impl.Shop{}) {
		t.Error("nothing is ok")
	}
}

// oddDones is each Who, Seq and Code that is at an edge, together.
func oddDones() []done {
	var all []done
	for _, who := range []int{math.MinInt, -1, 0, 1, impl.LogWho - 1, impl.LogWho, math.MaxInt} {
		for _, seq := range []int{math.MinInt, -1, 0, 1, impl.LogSeq, impl.LogSeq + 1, math.MaxInt} {
			for _, code := range []int{math.MinInt, -1, 0, 1, 2, 3, math.MaxInt} {
				all = append(all, lastLog(who, seq, code))
			}
		}
	}
	return all
}

func doneOk(d done) bool {
	return d.Who >= 0 && d.Who <= 2 && d.Seq >= 1 && d.Seq <= 1000 && (d.Code == 0 || d.Code == 1)
}

func TestShopOkOfEachDone(t *testing.T) {
	fine := lastLog(1, 7, impl.ShopDone)
	for _, d := range oddDones() {
		for _, c := range []struct {
			dones []done
			want  bool
		}{
			{[]done{d}, doneOk(d)},
			{[]done{d, fine}, doneOk(d) && d.Who < 1},
			{[]done{fine, d}, doneOk(d) && d.Who > 1},
			{[]done{d, d}, false},
			{[]done{d, fine, d}, false},
			{[]done{lastLog(0, 1, 0), fine, d}, doneOk(d) && d.Who > 1},
		} {
			if got := impl.ShopOk(impl.Shop{Tree: impl.TreeOpen(), Dones: c.dones}); got != c.want {
				t.Errorf("%v: %v", c.dones, got)
			}
		}
	}
}

func TestShopOkOfEachOrder(t *testing.T) {
	for n := range 5 * 5 * 5 * 5 {
		for many := range 5 {
			var dones []done
			for at, rest := 0, n; at < many; at, rest = at+1, rest/5 {
				dones = append(dones, lastLog(rest%5-1, 3, impl.ShopDone))
			}
			want := !slices.ContainsFunc(dones, func(d done) bool { return !doneOk(d) })
			for at := range dones {
				want = want && (at == 0 || dones[at-1].Who < dones[at].Who)
			}
			if got := impl.ShopOk(impl.Shop{Tree: turnedTree(), Dones: dones}); got != want {
				t.Fatalf("%v: %v", dones, got)
			}
		}
	}
}

func TestShopSame(t *testing.T) {
	others := map[string]func(s *impl.Shop){
		"a text":        func(s *impl.Shop) { s.Tree.Objs[2].Text = "two" },
		"a Ver":         func(s *impl.Shop) { s.Tree.Objs[7].Ver++ },
		"a kind":        func(s *impl.Shop) { s.Tree.Objs[1].Kind = impl.TreeDir },
		"a name":        func(s *impl.Shop) { s.Tree.Objs[5].Kids[0].Name = "c" },
		"no tree":       func(s *impl.Shop) { s.Tree = impl.Tree{} },
		"a Done fewer":  func(s *impl.Shop) { s.Dones = s.Dones[:1] },
		"a Done more":   func(s *impl.Shop) { s.Dones = append(s.Dones, done{}) },
		"no Dones":      func(s *impl.Shop) { s.Dones = nil },
		"a Who":         func(s *impl.Shop) { s.Dones[0].Who = 1 },
		"a later Who":   func(s *impl.Shop) { s.Dones[1].Who = 1 },
		"a Seq":         func(s *impl.Shop) { s.Dones[0].Seq = 5 },
		"a later Seq":   func(s *impl.Shop) { s.Dones[1].Seq = 8 },
		"a Code":        func(s *impl.Shop) { s.Dones[0].Code = impl.ShopClash },
		"a later Code":  func(s *impl.Shop) { s.Dones[1].Code = impl.ShopForm },
		"Dones' order":  func(s *impl.Shop) { slices.Reverse(s.Dones) },
		"numbers apart": func(s *impl.Shop) { s.Dones[0] = lastLog(math.MinInt, math.MaxInt, -1) },
	}
	shops := []impl.Shop{plainShop(), {}}
	for _, change := range others {
		shops = append(shops, plainShopWith(change))
	}
	for i, a := range shops {
		for j, b := range shops {
			wasA, wasB := copyShop(a), copyShop(b)
			if got := impl.ShopSame(a, copyShop(b)); got != (i == j) {
				t.Errorf("ShopSame of %v and %v: %v", a, b, got)
			}
			if !equalShops(a, wasA) || !equalShops(b, wasB) {
				t.Error("ShopSame leaves another server")
			}
		}
	}
}

func TestShopSameOfEmptyLists(t *testing.T) {
	hollow := copyTree(turnedTree())
	for id := range hollow.Objs {
		hollow.Objs[id].Kids = append([]ent{}, hollow.Objs[id].Kids...)
	}
	for _, a := range []impl.Tree{turnedTree(), hollow} {
		shops := []impl.Shop{{Tree: a}, {Tree: hollow, Dones: []done{}}, {Tree: a, Dones: plainShop().Dones[:0]}}
		for _, b := range shops {
			for _, c := range shops {
				if !impl.ShopSame(b, c) {
					t.Errorf("%v and %v are not the same", b, c)
				}
			}
		}
	}
	if !impl.ShopSame(impl.Shop{}, impl.Shop{Tree: impl.Tree{Objs: []impl.Obj{}}, Dones: []done{}}) {
		t.Error("nothing and nothing are not the same")
	}
}

func TestShopTake(t *testing.T) {
	s := wantTake(t, plainShop(), plainLog(t), impl.ShopDone, true)
	want := []done{lastLog(0, 4, impl.ShopDone), lastLog(1, 3, impl.ShopDone), lastLog(2, 7, impl.ShopClash)}
	if !slices.Equal(s.Dones, want) {
		t.Errorf("the last logs: %v", s.Dones)
	}
	if impl.TreePath(s.Tree, 8) != "/a/c" || impl.TreePath(s.Tree, 1) != "/e/b" || impl.TreePath(s.Tree, 2) != "" {
		t.Errorf("the tree: %v", s.Tree)
	}
	wantAsItIs(t, s, plainLog(t), impl.ShopDone)
	next := impl.LogMake(s.Tree, 1, 4, opsOf(t, "text 8 =y"))
	s = wantTake(t, s, next, impl.ShopDone, true)
	if s.Tree.Objs[8].Text != "y" || lastOf(s, 1) != lastLog(1, 4, impl.ShopDone) {
		t.Errorf("behind the next: %v", s)
	}
	wantAsItIs(t, s, plainLog(t), impl.ShopOld)
}

// Each client's first log goes to its place in Dones, whoever else has one there.
func TestShopTakeOfEachClient(t *testing.T) {
	for n := range 1 << impl.LogWho {
		s := impl.ShopOpen()
		for who := range impl.LogWho {
			if n>>who&1 == 1 {
				s.Dones = append(s.Dones, lastLog(who, 10+who, who%2))
			}
		}
		for who := range impl.LogWho {
			wantTake(t, s, impl.LogMake(s.Tree, who, 20, opsOf(t, "dir 3 0 x")), impl.ShopDone, true)
			wantTake(t, s, impl.LogMake(turnedTree(), who, 20, opsOf(t, "dir 3 0 x")), impl.ShopClash, true)
		}
	}
}

func TestShopTakeBySeq(t *testing.T) {
	for _, last := range []int{1, 2, 500, impl.LogSeq - 1, impl.LogSeq} {
		for _, code := range []int{impl.ShopDone, impl.ShopClash} {
			s := plainShopWith(func(s *impl.Shop) { s.Dones = slices.Insert(s.Dones, 1, lastLog(1, last, code)) })
			for _, seq := range []int{1, 2, last - 1, last, last + 1, last + 100, impl.LogSeq} {
				l := plainLogWith(t, func(l *impl.Log) { l.Seq = seq })
				switch {
				case seq < 1 || seq > impl.LogSeq:
					wantAsItIs(t, s, l, impl.ShopForm)
				case seq < last:
					wantTake(t, s, l, impl.ShopOld, false)
				case seq == last:
					wantTake(t, s, l, code, false)
				default:
					wantTake(t, s, l, impl.ShopDone, true)
				}
			}
		}
	}
}

// The number alone counts: another log with the number of the last one, or a smaller one, is not tried.
func TestShopTakeOfAnotherLogOfTheSameSeq(t *testing.T) {
	s := wantTake(t, plainShop(), plainLog(t), impl.ShopDone, true)
	for _, lines := range []string{"", "text 8 =y", "gone 31 0 e", "dir 10 0 q"} {
		list := opsOf(t, splitLines(lines)...)
		wantTake(t, s, impl.LogMake(s.Tree, 1, 3, list), impl.ShopDone, false)
		wantTake(t, s, impl.LogMake(s.Tree, 2, 7, list), impl.ShopClash, false)
		wantTake(t, s, impl.LogMake(s.Tree, 0, 4, list), impl.ShopDone, false)
		wantTake(t, s, impl.LogMake(s.Tree, 0, 3, list), impl.ShopOld, false)
		wantTake(t, s, impl.LogMake(s.Tree, 2, 6, list), impl.ShopOld, false)
	}
}

// A list of none leans on nothing: it comes in whatever was turned, and leaves the tree as it is.
func TestShopTakeOfAnEmptyList(t *testing.T) {
	for _, list := range [][]op{nil, {}} {
		for _, s := range []impl.Shop{impl.ShopOpen(), plainShop(), {Tree: chainTree()}} {
			l := impl.LogMake(impl.TreeOpen(), 1, 3, list)
			got := wantTake(t, s, l, impl.ShopDone, true)
			if !impl.TreeSame(got.Tree, s.Tree) {
				t.Error("the tree is another one")
			}
			wantWhy(t, s, l, shopFine)
		}
	}
	wantAsItIs(t, plainShop(), impl.Log{Who: 0, Seq: 4}, impl.ShopDone)
	wantAsItIs(t, plainShop(), impl.Log{Who: 2, Seq: 7}, impl.ShopClash)
	wantAsItIs(t, plainShop(), impl.Log{Who: 2, Seq: 6}, impl.ShopOld)
}

func TestShopTakeOfMost(t *testing.T) {
	var list []op
	for i := range impl.ActMost {
		list = append(list, op{Kind: impl.OpText, Id: 2, Text: nameAt(i)})
	}
	s := wantTake(t, plainShop(), impl.LogMake(turnedTree(), 1, 3, list), impl.ShopDone, true)
	if s.Tree.Objs[2].Ver != turnedTree().Objs[2].Ver+impl.ActMost {
		t.Errorf("the Ver is %d", s.Tree.Objs[2].Ver)
	}
	list[impl.ActMost-1] = opsOf(t, "text 9 =x")[0]
	l := impl.LogMake(turnedTree(), 1, 3, list)
	wantTake(t, plainShop(), l, impl.ShopClash, true)
	wantWhy(t, plainShop(), l, shopWhy{-1, impl.ActMost - 1, impl.ActKind})
}

// Whatever of all that a log leans on was turned, it does not come in, also where all of it could be done.
func TestShopTakeOfWhatWasTurned(t *testing.T) {
	l := plainLog(t)
	named := numbersOf(l.List)
	for id := range impl.TreeMax {
		s := plainShop()
		s.Tree = turnedOnce(s.Tree, id)
		if !slices.Contains(named, id) {
			wantTake(t, s, l, impl.ShopDone, true)
			continue
		}
		wantTake(t, s, l, impl.ShopClash, true)
		s.Tree.Objs[id].Ver = max(0, s.Tree.Objs[id].Ver-2)
		if id != 8 {
			wantTake(t, s, l, impl.ShopClash, true)
		}
	}
}

// A client whose log clashed goes on with its next one; the clash is not made good by it.
func TestShopTakeBehindAClash(t *testing.T) {
	s := plainShop()
	l := impl.LogMake(impl.TreeOpen(), 1, 3, opsOf(t, "dir 8 0 x"))
	s = wantTake(t, s, l, impl.ShopClash, true)
	s = wantTake(t, s, impl.LogMake(s.Tree, 1, 4, opsOf(t, "dir 8 0 x")), impl.ShopDone, true)
	wantAsItIs(t, s, l, impl.ShopOld)
	s = wantTake(t, s, impl.LogMake(s.Tree, 1, 5, opsOf(t, "dir 8 0 y")), impl.ShopClash, true)
	wantAsItIs(t, s, l, impl.ShopOld)
}

// ringShop is /p, /p/a, /p/a/b, /q, /q/c and /q/c/d: moves of a and of c name nothing in common.
func ringShop(t *testing.T) impl.Shop {
	t.Helper()
	list := opsOf(t, "dir 1 0 p", "dir 2 1 a", "dir 3 2 b", "dir 4 0 q", "dir 5 4 c", "dir 6 5 d")
	return wantTake(t, impl.ShopOpen(), impl.LogMake(impl.TreeOpen(), 2, 1, list), impl.ShopDone, true)
}

// Each move fits behind the other and turns nothing on which that leans; both would make a ring.
func TestShopTakeOfTwoMovesThatMakeARing(t *testing.T) {
	s := ringShop(t)
	a := impl.LogMake(s.Tree, 0, 1, opsOf(t, "move 2 1 a 6 a"))
	c := impl.LogMake(s.Tree, 1, 1, opsOf(t, "move 5 4 c 3 c"))
	for _, two := range [][]impl.Log{{a, c}, {c, a}} {
		one := wantTake(t, s, two[0], impl.ShopDone, true)
		wantFits(t, one.Tree, two[1], true, -1)
		wantWhy(t, one, two[1], shopWhy{-1, 0, impl.ActRing})
		both := wantTake(t, one, two[1], impl.ShopClash, true)
		wantAtHome(t, both.Tree)
		wantAsItIs(t, both, two[0], impl.ShopDone)
		wantAsItIs(t, both, two[1], impl.ShopClash)
	}
}

// Of two that lean on what both turn the ring is not even come to.
func TestShopTakeOfTwoMovesIntoEachOther(t *testing.T) {
	s := ringShop(t)
	a := impl.LogMake(s.Tree, 0, 1, opsOf(t, "move 2 1 a 5 a"))
	c := impl.LogMake(s.Tree, 1, 1, opsOf(t, "move 5 4 c 2 c"))
	one := wantTake(t, s, a, impl.ShopDone, true)
	wantWhy(t, one, c, shopWhy{5, 0, impl.ActRing})
	wantTake(t, one, c, impl.ShopClash, true)
	two := wantTake(t, s, c, impl.ShopDone, true)
	wantWhy(t, two, a, shopWhy{2, 0, impl.ActRing})
	wantTake(t, two, a, impl.ShopClash, true)
}

// The ring is opened again, and nothing on which the clashed log leans was turned: it would fit, but does not come in.
func TestShopTakeOfAClashThatWouldFitByThen(t *testing.T) {
	s := ringShop(t)
	c := impl.LogMake(s.Tree, 1, 1, opsOf(t, "move 5 4 c 3 c"))
	s = wantTake(t, s, impl.LogMake(s.Tree, 0, 1, opsOf(t, "move 2 1 a 6 a")), impl.ShopDone, true)
	s = wantTake(t, s, c, impl.ShopClash, true)
	s = wantTake(t, s, impl.LogMake(s.Tree, 0, 2, opsOf(t, "move 2 6 a 1 a")), impl.ShopDone, true)
	wantWhy(t, s, c, shopFine)
	wantTake(t, s, c, impl.ShopClash, false)
	c.Seq = 2
	s = wantTake(t, s, c, impl.ShopDone, true)
	c.Seq = 1
	wantTake(t, s, c, impl.ShopOld, false)
}

// A log may also come ahead of what it leans on; it does not come in once that is there.
func TestShopTakeOfALogThatIsAhead(t *testing.T) {
	s := impl.ShopOpen()
	first := impl.LogMake(s.Tree, 0, 1, opsOf(t, "dir 1 0 a"))
	behind, _, _ := impl.ActAll(s.Tree, first.List)
	second := impl.LogMake(behind, 1, 1, opsOf(t, "file 2 1 b"))
	s = wantTake(t, s, second, impl.ShopClash, true)
	s = wantTake(t, s, first, impl.ShopDone, true)
	wantWhy(t, s, second, shopFine)
	wantTake(t, s, second, impl.ShopClash, false)
}

func TestShopTakeOfTwoLogsOfOneTree(t *testing.T) {
	cases := []struct {
		why, a, b          string
		bBehindA, aBehindB bool
	}{
		{"two texts", "text 2 =x", "text 1 =y", true, true},
		{"two places", "file 8 9 x", "dir 10 31 x; file 11 10 y", true, true},
		{"a text and a move of its directory", "text 2 =x", "move 9 0 a 31 a", true, true},
		{"a text and a move of the directory around it", "text 1 =x", "move 5 9 d 31 d", true, true},
		{"the text of what is moved, which a move does not turn", "text 1 =x", "move 1 5 b 31 b", false, true},
		{"one name", "file 8 31 x", "file 10 31 x", false, false},
		{"one directory", "file 8 31 x", "file 10 31 y", false, false},
		{"one number", "file 8 31 x", "file 8 5 x", false, false},
		{"one text", "text 2 =x", "text 2 =y", false, false},
		{"just the same", "text 2 =x", "text 2 =x", false, false},
		{"one of several", "text 2 =x; file 8 31 x", "text 1 =x; text 2 =x", false, false},
		{"what goes", "gone 31 0 e", "file 8 31 x", false, false},
		{"what is made and goes", "file 8 31 x; gone 8 31 x", "file 10 31 x", false, false},
	}
	for _, c := range cases {
		a := impl.LogMake(turnedTree(), 1, 3, opsOf(t, splitLines(c.a)...))
		b := impl.LogMake(turnedTree(), 0, 9, opsOf(t, splitLines(c.b)...))
		one := wantTake(t, wantTake(t, plainShop(), a, impl.ShopDone, true), b, doneOrClash(c.bBehindA), true)
		two := wantTake(t, wantTake(t, plainShop(), b, impl.ShopDone, true), a, doneOrClash(c.aBehindB), true)
		if c.bBehindA && c.aBehindB && !equalShops(one, two) {
			t.Errorf("%s: the servers are not the same", c.why)
		}
	}
}

func doneOrClash(done bool) int {
	if done {
		return impl.ShopDone
	}
	return impl.ShopClash
}

// Drawn logs of one tree: the second comes in just if the first turned nothing that it names, and no ring is made.
func TestShopTakeOfTwoDrawnLogs(t *testing.T) {
	seen := map[string]int{}
	dice := slimDice{actDice: 7}
	for range 600 {
		_, x := dice.list(impl.TreeOpen(), 15+dice.below(15))
		a, _ := dice.list(x, 1+dice.below(2))
		dice.last = 0
		b, _ := dice.list(x, 1+dice.below(2))
		wantEitherOrder(t, x, a, b, seen)
	}
	for _, what := range []string{"both", "clash"} {
		if seen[what] < 30 {
			t.Errorf("%s: %d times only", what, seen[what])
		}
	}
}

// Each two moves that can be done of a deep tree; rings are rare among those that are drawn.
func TestShopTakeOfEachTwoMoves(t *testing.T) {
	seen := map[string]int{}
	x := ringShop(t).Tree
	var moves []op
	for id, from := range modelOf(x).home {
		for dir2 := range 7 {
			o := op{Kind: impl.OpMove, Id: id, Dir: from.dir, Name: from.name, Dir2: dir2, Name2: "z"}
			if _, code := impl.ActDo(x, o); code == impl.ActFine {
				moves = append(moves, o)
			}
		}
	}
	for _, a := range moves {
		for _, b := range moves {
			wantEitherOrder(t, x, []op{a}, []op{b}, seen)
		}
	}
	for _, what := range []string{"both", "clash", "ring"} {
		if seen[what] == 0 {
			t.Errorf("%s: never", what)
		}
	}
}

// wantEitherOrder takes two lists that can be done of a tree.
func wantEitherOrder(t *testing.T, x impl.Tree, a []op, b []op, seen map[string]int) {
	t.Helper()
	s := impl.Shop{Tree: x}
	logA, logB := impl.LogMake(x, 0, 1, a), impl.LogMake(x, 1, 1, b)
	one, inB := wantSecond(t, s, logA, logB, seen)
	two, inA := wantSecond(t, s, logB, logA, seen)
	if inA && inB {
		seen["both"]++
		if !equalShops(one, two) {
			t.Fatalf("%q and %q leave another server in the other order", linesOf(a), linesOf(b))
		}
	}
}

// wantSecond gives the server behind two logs, and whether the second came in.
func wantSecond(t *testing.T, s impl.Shop, a impl.Log, b impl.Log, seen map[string]int) (impl.Shop, bool) {
	t.Helper()
	one := wantTake(t, s, a, impl.ShopDone, true)
	turned := meet(turnedBy(s.Tree, one.Tree), namedIn(b.List))
	two, code, _ := wantTaken(t, one, b)
	_, _, bar := impl.ShopWhy(one, b)
	switch {
	case turned && code == impl.ShopClash:
		seen["clash"]++
	case !turned && code == impl.ShopClash && bar == impl.ActRing:
		seen["ring"]++
	case turned || code != impl.ShopDone:
		t.Fatalf("%q behind %q is told %d", linesOf(b.List), linesOf(a.List), code)
	}
	return two, code == impl.ShopDone
}

// Promise 6, of drawn servers and logs, one behind the other.
func TestShopTakesALogWholeOrNotAtAll(t *testing.T) {
	seen := map[string]int{}
	for play := range 60 {
		dice := shopDice{slimDice: slimDice{actDice: actDice(100 + play)}}
		s := dice.shop()
		cameIn := map[owner]int{}
		for range 40 {
			l := dice.log(s)
			countTake(seen, s, l)
			next, code, now := wantTaken(t, s, l)
			if now && code == impl.ShopDone {
				cameIn[owner{l.Who, l.Seq}]++
				dice.trees = append(dice.trees, next.Tree)
			}
			s = next
		}
		for o, many := range cameIn {
			if many != 1 {
				t.Errorf("play %d: the log %v came in %d times", play, o, many)
			}
		}
		wantAtHome(t, s.Tree)
	}
	for _, what := range []string{"came in", "turned", "barred", "turned and barred", "done again", "clash again", "clash again, would fit", "old"} {
		if seen[what] < 10 {
			t.Errorf("%s: %d times only", what, seen[what])
		}
	}
}

func countTake(seen map[string]int, s impl.Shop, l impl.Log) {
	m := modelTake(s, l)
	switch {
	case !m.now && m.code == impl.ShopOld:
		seen["old"]++
	case !m.now && m.code == impl.ShopDone:
		seen["done again"]++
	case !m.now && m.why == shopFine:
		seen["clash again, would fit"]++
	case !m.now:
		seen["clash again"]++
	case m.code == impl.ShopDone:
		seen["came in"]++
	case m.why.at == -1:
		seen["turned"]++
	case m.why.id == -1:
		seen["barred"]++
	default:
		seen["turned and barred"]++
	}
}

func TestShopTakeOfServersThatAreNotOk(t *testing.T) {
	logs := []impl.Log{plainLog(t), {Who: 0, Seq: 1}, {Who: 0, Seq: 4}, {Who: 2, Seq: 6}, {}}
	for why, s := range shopsNotOk() {
		was := copyShop(s)
		for _, l := range logs {
			if got, code, now := impl.ShopTake(s, l); !isNoShop(got) || code != impl.ShopForm || now {
				t.Errorf("%s: ShopTake = %v, %d, %v", why, got, code, now)
			}
			wantWhy(t, s, l, shopWhy{-1, -1, impl.ActForm})
		}
		if !equalShops(s, was) {
			t.Errorf("%s: the server is another one", why)
		}
	}
}

func TestShopTakeOfLogsThatAreNotOk(t *testing.T) {
	shops := []impl.Shop{impl.ShopOpen(), plainShop(), {Tree: chainTree()}}
	shops = append(shops, plainShopWith(func(s *impl.Shop) { s.Dones = slices.Insert(s.Dones, 1, lastLog(1, 3, impl.ShopDone)) }))
	shops = append(shops, plainShopWith(func(s *impl.Shop) { s.Dones = slices.Insert(s.Dones, 1, lastLog(1, 9, impl.ShopClash)) }))
	for why, l := range logsNotOk(t) {
		if impl.LogOk(l) {
			t.Fatalf("%s: ok", why)
		}
		for _, s := range shops {
			wantAsItIs(t, s, l, impl.ShopForm)
			wantWhy(t, s, l, shopWhy{-1, -1, impl.ActForm})
		}
	}
	for _, wrong := range allNotOk() {
		for at := range len(plainList(t)) + 1 {
			l := plainLog(t)
			l.List = slices.Insert(l.List, at, wrong)
			wantAsItIs(t, plainShop(), l, impl.ShopForm)
			wantWhy(t, plainShop(), l, shopWhy{-1, -1, impl.ActForm})
		}
	}
}

func TestShopWhy(t *testing.T) {
	wantWhy(t, plainShop(), plainLog(t), shopFine)
	wantWhy(t, impl.ShopOpen(), impl.Log{Who: 2, Seq: 1000}, shopFine)
	for _, c := range []struct {
		list string
		want shopWhy
	}{
		{"text 2 =x", shopFine},
		{"text 9 =x", shopWhy{-1, 0, impl.ActKind}},
		{"text 9 =x; text 2 =x; text 1 =x", shopWhy{-1, 0, impl.ActKind}},
		{"text 2 =x; gone 9 0 a; text 1 =x", shopWhy{-1, 1, impl.ActFull}},
		{"text 2 =x; text 1 =x; file 7 0 x", shopWhy{-1, 2, impl.ActUsed}},
		{"text 2 =x; file 8 2 x; text 9 =x", shopWhy{-1, 1, impl.ActDirs}},
		{"text 2 =x; text 1 =x; gone 2 0 b", shopWhy{-1, 2, impl.ActNone}},
		{"dir 8 9 d; text 2 =x", shopWhy{-1, 0, impl.ActThere}},
		{"dir 8 0 x; move 9 0 a 5 a; dir 8 0 y", shopWhy{-1, 1, impl.ActRing}},
		{"dir 8 0 x; dir 10 8 y; dir 10 0 y", shopWhy{-1, 2, impl.ActUsed}},
	} {
		l := impl.LogMake(turnedTree(), 1, 3, opsOf(t, splitLines(c.list)...))
		wantWhy(t, plainShop(), l, c.want)
		wantTake(t, plainShop(), l, doneOrClash(c.want == shopFine), true)
	}
}

// What was turned is told, and what can not be done as well: neither hides the other.
func TestShopWhyOfBoth(t *testing.T) {
	barred := impl.LogMake(turnedTree(), 1, 3, opsOf(t, "text 2 =x", "gone 9 0 a", "text 1 =x"))
	fine := impl.LogMake(turnedTree(), 1, 3, opsOf(t, "text 2 =x", "text 1 =x"))
	ids := []int{0, 1, 2, 9}
	for n := range 1 << len(ids) {
		s := plainShop()
		for at, id := range ids {
			s.Tree.Objs[id].Ver += n >> at & 1
		}
		turned := turnedBy(turnedTree(), s.Tree)
		wantWhy(t, s, barred, shopWhy{firstIn(turned, 0, 1, 2, 9), 1, impl.ActFull})
		wantWhy(t, s, fine, shopWhy{firstIn(turned, 1, 2), -1, impl.ActFine})
	}
}

func firstIn(turned map[int]bool, ids ...int) int {
	for _, id := range ids {
		if turned[id] {
			return id
		}
	}
	return -1
}

// ShopWhy looks at the tree alone, not at what was told of a log before.
func TestShopWhyOfALogThatComesAgain(t *testing.T) {
	fresh := impl.LogMake(turnedTree(), 0, 4, opsOf(t, "text 2 =x"))
	old := impl.LogMake(turnedTree(), 2, 1, opsOf(t, "text 2 =x"))
	wantWhy(t, plainShop(), fresh, shopFine)
	wantWhy(t, plainShop(), old, shopFine)
	s := wantTake(t, plainShop(), plainLog(t), impl.ShopDone, true)
	wantWhy(t, s, plainLog(t), shopWhy{2, 0, impl.ActKind})
}

// What was turned as often as can be bars a log that names it, at its place.
func TestShopWhereTheVersEnd(t *testing.T) {
	for at, id := range map[int]int{0: 2, 1: 9, 2: 1} {
		s := plainShop()
		s.Tree.Objs[id].Ver = impl.TreeVer
		l := impl.LogMake(s.Tree, 1, 3, plainList(t))
		wantWhy(t, s, l, shopWhy{-1, at, impl.ActForm})
		wantTake(t, s, l, impl.ShopClash, true)
		s.Tree.Objs[id].Ver = impl.TreeVer - 5
		wantTake(t, s, impl.LogMake(s.Tree, 1, 3, plainList(t)), impl.ShopDone, true)
	}
	s := plainShop()
	s.Tree.Objs[2].Ver = impl.TreeVer - 1
	l := impl.LogMake(s.Tree, 1, 3, opsOf(t, "text 2 =x", "text 2 =y"))
	wantWhy(t, s, l, shopWhy{-1, 1, impl.ActForm})
	wantTake(t, s, l, impl.ShopClash, true)
}

// roomyShop has spare room behind all lists, with something in it.
func roomyShop() impl.Shop {
	dones := append(plainShop().Dones, lastLog(77, 77, 77), lastLog(78, 78, 78))
	return impl.Shop{Tree: roomyTree(), Dones: dones[:len(dones)-2]}
}

func roomyLog(l impl.Log) impl.Log {
	bases, list := append(slices.Clone(l.Bases), base{Id: 77}), append(slices.Clone(l.List), op{Kind: 77})
	l.Bases, l.List = bases[:len(bases)-1], list[:len(list)-1]
	return l
}

// wantRoomKept asks that neither is another one, up to behind the ends of their lists.
func wantRoomKept(t *testing.T, why string, s impl.Shop, l impl.Log, was impl.Log) {
	t.Helper()
	if !reflect.DeepEqual(withRoom(s.Tree), withRoom(roomyTree())) {
		t.Errorf("%s: the tree, or what is behind its lists' ends, is another one", why)
	}
	if dones := roomyShop().Dones; !slices.Equal(s.Dones[:len(dones)+2], dones[:len(dones)+2]) {
		t.Errorf("%s: Dones, or what is behind their end, are others", why)
	}
	bases, list := append(slices.Clone(was.Bases), base{Id: 77}), append(slices.Clone(was.List), op{Kind: 77})
	if !slices.Equal(l.Bases[:len(bases)], bases) || !slices.Equal(l.List[:len(list)], list) {
		t.Errorf("%s: the log, or what is behind its lists' ends, is another one", why)
	}
}

func TestShopAnswersAreNewMemory(t *testing.T) {
	logs := map[string]impl.Log{
		"came in":    plainLog(t),
		"none":       {Who: 1, Seq: 3},
		"turned":     plainLogWith(t, func(l *impl.Log) { l.Bases[2].Ver++ }),
		"barred":     impl.LogMake(turnedTree(), 1, 3, opsOf(t, "text 2 =x", "gone 9 0 a")),
		"again":      plainLogWith(t, func(l *impl.Log) { l.Who, l.Seq = 0, 4 }),
		"clash":      plainLogWith(t, func(l *impl.Log) { l.Who, l.Seq = 2, 7 }),
		"old":        plainLogWith(t, func(l *impl.Log) { l.Who, l.Seq = 2, 6 }),
		"next of 0":  plainLogWith(t, func(l *impl.Log) { l.Who, l.Seq = 0, 5 }),
		"not ok":     plainLogWith(t, func(l *impl.Log) { l.Seq = 0 }),
		"list wrong": plainLogWith(t, func(l *impl.Log) { l.List[3].Kind = 0 }),
	}
	for why, was := range logs {
		s, l := roomyShop(), roomyLog(was)
		first, code, now := impl.ShopTake(s, l)
		want := copyShop(first)
		wantListsApart(t, why, first.Tree)
		fill(first.Dones, lastLog(-9, -9, -9))
		if !impl.TreeSame(first.Tree, want.Tree) {
			t.Errorf("%s: the tree and Dones share memory", why)
		}
		scribble(first.Tree)
		impl.ShopWhy(s, l)
		impl.ShopOk(s)
		impl.ShopSame(s, s)
		wantRoomKept(t, why, s, l, was)
		again, c, n := impl.ShopTake(s, l)
		if !equalShops(again, want) || c != code || n != now {
			t.Errorf("%s: %v, %d, %v, and then %v, %d, %v", why, want, code, now, again, c, n)
		}
		// A later change of what was handed in is not seen in the answer.
		scribble(s.Tree)
		fill(s.Dones, lastLog(-8, -8, -8))
		fill(l.Bases, base{Id: -8})
		fill(l.List, op{Kind: -8})
		if !equalShops(again, want) {
			t.Errorf("%s: the answer is another one", why)
		}
	}
}

// A server of another call's answer is as good as one that was written out.
func TestShopTakeOfAnswers(t *testing.T) {
	s := impl.ShopOpen()
	for seq := 1; seq <= impl.LogSeq; seq += 37 {
		for who := range impl.LogWho {
			name := nameAt(seq*impl.LogWho + who)
			list := []op{{Kind: impl.OpFile, Id: 1 + who, Dir: 0, Name: name}}
			if seq > 1 {
				list = opsOf(t, "text 1 =x", "text 2 =y", "text 3 =z")
			}
			s = wantTake(t, s, impl.LogMake(s.Tree, who, seq, list), impl.ShopDone, true)
		}
	}
	want := []done{lastLog(0, 1000, 0), lastLog(1, 1000, 0), lastLog(2, 1000, 0)}
	if !slices.Equal(s.Dones, want) {
		t.Errorf("the last logs: %v", s.Dones)
	}
	wantAsItIs(t, s, impl.LogMake(s.Tree, 0, 1001, nil), impl.ShopForm)
}
