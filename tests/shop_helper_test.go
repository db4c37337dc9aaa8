package tests

import (
	"slices"
	"strconv"
	"testing"

	"loop.example/shieling/impl"
)

type done = impl.Done

func lastLog(who int, seq int, code int) done { return done{Who: who, Seq: seq, Code: code} }

// plainShop has turnedTree, on which plainLog leans; its client, 1, has no log there yet.
func plainShop() impl.Shop {
	return impl.Shop{
		Tree:  turnedTree(),
		Dones: []done{{Who: 0, Seq: 4, Code: impl.ShopDone}, {Who: 2, Seq: 7, Code: impl.ShopClash}},
	}
}

func plainShopWith(change func(s *impl.Shop)) impl.Shop {
	s := plainShop()
	change(&s)
	return s
}

func copyShop(s impl.Shop) impl.Shop {
	return impl.Shop{Tree: copyTree(s.Tree), Dones: slices.Clone(s.Dones)}
}

// equalShops is told apart from ShopSame, which is asked itself.
func equalShops(a impl.Shop, b impl.Shop) bool {
	return slices.EqualFunc(a.Tree.Objs, b.Tree.Objs, sameObj) && slices.Equal(a.Dones, b.Dones)
}

func isNoShop(s impl.Shop) bool { return len(s.Tree.Objs) == 0 && len(s.Dones) == 0 }

// shopsNotOk is a server of each tree that is not ok, and one of each fault of Dones.
func shopsNotOk() map[string]impl.Shop {
	shops := map[string]impl.Shop{
		"nobody's log":   plainShopWith(func(s *impl.Shop) { s.Dones[0].Who = -1 }),
		"one too far":    plainShopWith(func(s *impl.Shop) { s.Dones[1].Who = impl.LogWho }),
		"a Seq of 0":     plainShopWith(func(s *impl.Shop) { s.Dones[0].Seq = 0 }),
		"a Seq too far":  plainShopWith(func(s *impl.Shop) { s.Dones[1].Seq = impl.LogSeq + 1 }),
		"old":            plainShopWith(func(s *impl.Shop) { s.Dones[0].Code = impl.ShopOld }),
		"a Code below 0": plainShopWith(func(s *impl.Shop) { s.Dones[1].Code = -1 }),
		"descending":     plainShopWith(func(s *impl.Shop) { slices.Reverse(s.Dones) }),
		"one twice":      plainShopWith(func(s *impl.Shop) { s.Dones[1].Who = s.Dones[0].Who }),
		"very many":      plainShopWith(func(s *impl.Shop) { s.Dones = slices.Repeat(s.Dones, 100000) }),
	}
	for why, x := range treesNotOk() {
		shops[why] = impl.Shop{Tree: x}
		shops[why+", with Dones"] = impl.Shop{Tree: x, Dones: plainShop().Dones}
	}
	return shops
}

// logsNotOk is plainLog with a fault each.
func logsNotOk(t *testing.T) map[string]impl.Log {
	t.Helper()
	logs := map[string]impl.Log{
		"nothing":       {},
		"no Bases":      plainLogWith(t, func(l *impl.Log) { l.Bases = nil }),
		"Bases of none": {Who: 1, Seq: 3, Bases: []base{{}}},
		"a Base fewer":  plainLogWith(t, func(l *impl.Log) { l.Bases = l.Bases[1:] }),
		"a Ver below 0": plainLogWith(t, func(l *impl.Log) { l.Bases[0].Ver = -1 }),
		"a Ver too far": plainLogWith(t, func(l *impl.Log) { l.Bases[5].Ver = impl.TreeVer + 1 }),
		"too many":      plainLogWith(t, func(l *impl.Log) { l.List = slices.Repeat(l.List, 16) }),
		"very many":     plainLogWith(t, func(l *impl.Log) { l.List = slices.Repeat(l.List, 100000) }),
		"no kind":       plainLogWith(t, func(l *impl.Log) { l.List[2].Kind = 6 }),
		"a number far":  plainLogWith(t, func(l *impl.Log) { l.List[0].Id = 1 << 40 }),
	}
	for _, o := range ownersNotOk {
		logs["of "+strconv.Itoa(o.who)+"."+strconv.Itoa(o.seq)] = plainLogWith(t, func(l *impl.Log) { l.Who, l.Seq = o.who, o.seq })
	}
	return logs
}

// lastOf is the last log of a client, or nothing.
func lastOf(s impl.Shop, who int) done {
	for _, d := range s.Dones {
		if d.Who == who {
			return d
		}
	}
	return done{}
}

// withLast puts a client's last log where it belongs, going from client to client.
func withLast(s impl.Shop, last done) []done {
	var dones []done
	for who := range impl.LogWho {
		d := lastOf(s, who)
		if who == last.Who {
			d = last
		}
		if d.Seq > 0 {
			dones = append(dones, d)
		}
	}
	return dones
}

// shopModel is what chapter 6 says of an ok server and an ok log, with what is done told by actModel.
type shopModel struct {
	shop impl.Shop
	code int
	now  bool
	why  shopWhy
}

type shopWhy struct {
	id, at, code int
}

var shopFine = shopWhy{id: -1, at: -1, code: impl.ActFine}

func modelTake(s impl.Shop, l impl.Log) shopModel {
	behind, why := modelTry(s.Tree, l)
	last := lastOf(s, l.Who)
	switch {
	case last.Seq == l.Seq:
		return shopModel{s, last.Code, false, why}
	case last.Seq > l.Seq:
		return shopModel{s, impl.ShopOld, false, why}
	case why != shopFine:
		dones := withLast(s, lastLog(l.Who, l.Seq, impl.ShopClash))
		return shopModel{impl.Shop{Tree: s.Tree, Dones: dones}, impl.ShopClash, true, why}
	}
	dones := withLast(s, lastLog(l.Who, l.Seq, impl.ShopDone))
	return shopModel{impl.Shop{Tree: behind, Dones: dones}, impl.ShopDone, true, why}
}

func modelTry(x impl.Tree, l impl.Log) (impl.Tree, shopWhy) {
	why := shopFine
	for _, b := range slices.Backward(l.Bases) {
		if x.Objs[b.Id].Ver != b.Ver {
			why.id = b.Id
		}
	}
	m := modelOf(x)
	for at, o := range l.List {
		if code := m.do(o); code != impl.ActFine {
			why.at, why.code = at, code
			return x, why
		}
	}
	return m.tree(), why
}

// wantTaken asks for all of promise 6 of an ok server and an ok log; it gives the server behind it.
func wantTaken(t *testing.T, s impl.Shop, l impl.Log) (impl.Shop, int, bool) {
	t.Helper()
	want := modelTake(s, l)
	wasShop, wasLog := copyShop(s), copyLog(l)
	got, code, now := impl.ShopTake(s, l)
	if code != want.code || now != want.now {
		t.Fatalf("%v is told %d, %v, not %d, %v", l, code, now, want.code, want.now)
	}
	if !equalShops(got, want.shop) {
		t.Fatalf("%v leaves %v, not %v", l, got, want.shop)
	}
	if !equalShops(s, wasShop) || !equalLogs(l, wasLog) {
		t.Fatalf("%v: what was handed in is another one", wasLog)
	}
	wantWholeOrNot(t, s, l, got, code == impl.ShopDone && now)
	wantOneDone(t, s, l, got, now)
	wantWhy(t, s, l, want.why)
	if now {
		wantAsItIs(t, got, l, code)
	}
	return got, code, now
}

// wantTake is wantTaken of a log of which it is known what is told.
func wantTake(t *testing.T, s impl.Shop, l impl.Log, code int, now bool) impl.Shop {
	t.Helper()
	got, c, n := wantTaken(t, s, l)
	if c != code || n != now {
		t.Errorf("%v is told %d, %v, not %d, %v", l, c, n, code, now)
	}
	return got
}

// wantWholeOrNot asks that the tree is the one behind all of the list, or just the one that was.
func wantWholeOrNot(t *testing.T, s impl.Shop, l impl.Log, got impl.Shop, whole bool) {
	t.Helper()
	want := s.Tree
	if whole {
		behind, code, many := impl.ActAll(s.Tree, l.List)
		if code != impl.ActFine || many != len(l.List) {
			t.Fatalf("%v came in, but ends with %d at %d", l, code, many)
		}
		if fits, id := impl.LogFits(s.Tree, l); !fits {
			t.Fatalf("%v came in, but %d was turned", l, id)
		}
		want = behind
	}
	if !impl.TreeSame(got.Tree, want) {
		t.Fatalf("%v: the tree is neither behind all of it nor as it was", l)
	}
}

// wantOneDone asks that only the client's part of Dones is another one, if any is.
func wantOneDone(t *testing.T, s impl.Shop, l impl.Log, got impl.Shop, now bool) {
	t.Helper()
	if !impl.ShopOk(got) {
		t.Fatalf("%v leaves a server that is not ok: %v", l, got)
	}
	for who := range impl.LogWho {
		same := lastOf(got, who) == lastOf(s, who)
		if changes := now && who == l.Who; same == changes {
			t.Errorf("%v: the last log of %d was %v and is %v", l, who, lastOf(s, who), lastOf(got, who))
		}
	}
	if !slices.IsSortedFunc(got.Dones, func(a done, b done) int { return a.Who - b.Who }) {
		t.Errorf("%v: Dones do not ascend: %v", l, got.Dones)
	}
}

// wantAsItIs asks that a log tells that code, and that nothing comes of it.
func wantAsItIs(t *testing.T, s impl.Shop, l impl.Log, code int) {
	t.Helper()
	wasShop, wasLog := copyShop(s), copyLog(l)
	got, c, now := impl.ShopTake(s, l)
	if c != code || now {
		t.Errorf("%v is told %d, %v, not %d", l, c, now, code)
	}
	if !equalShops(got, wasShop) || !equalShops(s, wasShop) || !equalLogs(l, wasLog) {
		t.Errorf("%v: the server, or what was handed in, is another one", wasLog)
	}
}

// wantWhy also asks that neither is another one behind the call.
func wantWhy(t *testing.T, s impl.Shop, l impl.Log, want shopWhy) {
	t.Helper()
	wasShop, wasLog := copyShop(s), copyLog(l)
	var got shopWhy
	got.id, got.at, got.code = impl.ShopWhy(s, l)
	if got != want {
		t.Errorf("ShopWhy of %v: %v, not %v", l, got, want)
	}
	if !equalShops(s, wasShop) || !equalLogs(l, wasLog) {
		t.Errorf("ShopWhy of %v: what was handed in is another one", wasLog)
	}
}

// shopDice draws logs of a server's trees: new and late ones, some that can not be done, and some that come again.
type shopDice struct {
	slimDice
	trees []impl.Tree
	logs  []impl.Log
}

// shop is a server at some point, with the last logs of some.
func (d *shopDice) shop() impl.Shop {
	_, x := d.list(impl.TreeOpen(), d.below(30))
	s := impl.Shop{Tree: x}
	for who := range impl.LogWho {
		if d.below(2) == 0 {
			s.Dones = append(s.Dones, lastLog(who, 1+d.below(5), d.below(2)))
		}
	}
	d.trees = append(d.trees, x)
	return s
}

func (d *shopDice) log(s impl.Shop) impl.Log {
	if len(d.logs) > 0 && d.below(4) == 0 {
		return d.logs[len(d.logs)-1-d.below(min(len(d.logs), 6))]
	}
	x := s.Tree
	if d.below(2) == 0 {
		x = d.trees[len(d.trees)-1-d.below(min(len(d.trees), 4))]
	}
	list, _ := d.list(x, d.below(7))
	if d.below(3) == 0 {
		list = append(list, d.op(x))
	}
	if d.below(3) == 0 {
		x = s.Tree
	}
	who := d.below(impl.LogWho)
	seq := max(1, lastOf(s, who).Seq+d.below(5)-1)
	l := impl.LogMake(x, who, seq, list)
	d.logs = append(d.logs, l)
	return l
}

// turnedBy is what is another Ver in the two.
func turnedBy(x impl.Tree, y impl.Tree) map[int]bool {
	ids := map[int]bool{}
	for id := range x.Objs {
		if x.Objs[id].Ver != y.Objs[id].Ver {
			ids[id] = true
		}
	}
	return ids
}

func meet(a map[int]bool, b map[int]bool) bool {
	for id := range a {
		if b[id] {
			return true
		}
	}
	return false
}
