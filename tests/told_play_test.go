package tests

import (
	"fmt"
	"slices"
	"testing"

	"loop.example/shieling/impl"
)

// toldPlay goes from event to event, and asks for promise 10 behind each; it keeps the trees that the server had.
type toldPlay struct {
	world
	trees []impl.Tree
	lost  map[owner]bool
	seen  map[string]int
}

func newToldPlay(seen map[string]int) *toldPlay {
	w := impl.WorldOpen()
	return &toldPlay{world: w, trees: []impl.Tree{w.Shop.Tree}, lost: map[owner]bool{}, seen: seen}
}

func (p *toldPlay) happens(t *testing.T, events ...event) {
	t.Helper()
	for _, e := range events {
		was := p.world
		p.world = impl.WorldDo(was, e)
		wantOkTold(t, eventText(e), p.world, allTold)
		p.wantStep(t, was)
		p.count(was, e)
		if t.Failed() {
			t.FailNow()
		}
	}
}

// wantStep asks by the words of the promise: the server's tree is another one only by a log that came in whole, and what came in stays so.
func (p *toldPlay) wantStep(t *testing.T, was world) {
	t.Helper()
	many := len(was.Past)
	if len(p.Past) < many || len(p.Past) > many+1 || !slices.EqualFunc(p.Past[:many], was.Past, equalLogs) {
		t.Fatalf("what came in was %v, and is %v", ownersIn(was.Past), ownersIn(p.Past))
	}
	if len(p.Past) > many {
		l := p.Past[many]
		if modelHas(was.Past, l.Who, l.Seq) {
			t.Fatalf("%d.%d came in twice", l.Who, l.Seq)
		}
		if slices.ContainsFunc(was.Told, func(x told) bool { return x.Who == l.Who && x.Seq == l.Seq }) {
			t.Fatalf("%d.%d came in behind what was told of it", l.Who, l.Seq)
		}
		x, why := modelTry(was.Shop.Tree, l)
		if why != shopFine {
			t.Fatalf("%d.%d came in, but %v", l.Who, l.Seq, why)
		}
		p.trees = append(p.trees, x)
	}
	if !impl.TreeSame(p.Shop.Tree, p.trees[len(p.trees)-1]) {
		t.Fatalf("the server's tree is not what came in: %v", p.Shop.Tree)
	}
}

// wantTrees asks that what came in makes the trees that the server had, one behind the other.
func (p *toldPlay) wantTrees(t *testing.T) {
	t.Helper()
	wantFoldTo(t, "a play", p.Past, len(p.Past))
	for n := range p.trees {
		if x := wantFold(t, "a play", p.Past, n, true); !impl.TreeSame(x, p.trees[n]) {
			t.Errorf("%d of %d logs: %v, not %v", n, len(p.Past), x, p.trees[n])
		}
	}
	for _, l := range p.Past {
		wantHas(t, p.Past, l.Who, l.Seq, true)
		wantHas(t, p.Past, l.Who, l.Seq+1, modelHas(p.Past, l.Who, l.Seq+1))
	}
}

// toldWays is what count names.
var toldWays = []string{
	"came in", "came again", "came late", "clashed", "clashed, came again", "the verdict is lost",
	"told done", "told clash", "told done behind a lost verdict", "in and not told",
}

func (p *toldPlay) count(was world, e event) {
	if len(p.Past) > len(was.Past) {
		p.seen["came in"]++
	}
	if len(p.Told) > len(was.Told) {
		p.countTold(p.Told[len(was.Told)])
	}
	if modelUntold(p.world) {
		p.seen["in and not told"]++
	}
	if e.A < 0 || e.A >= len(was.Net) {
		return
	}
	switch m := was.Net[e.A]; {
	case e.Kind == impl.EventTakes && m.Kind == impl.MsgLog:
		p.countServed(was, m)
	case e.Kind == impl.EventLoses && m.Kind == impl.MsgVerdict && p.Keeps[m.Who].Waits && p.Keeps[m.Who].Seq == m.Seq && m.Code == impl.ShopDone:
		p.seen["the verdict is lost"]++
		p.lost[owner{m.Who, m.Seq}] = true
	}
}

func (p *toldPlay) countTold(x told) {
	switch {
	case x.Code == impl.ShopClash:
		p.seen["told clash"]++
	case x.Code == impl.ShopDone && p.lost[owner{x.Who, x.Seq}]:
		p.seen["told done behind a lost verdict"]++
		fallthrough
	case x.Code == impl.ShopDone:
		p.seen["told done"]++
	}
}

func (p *toldPlay) countServed(was world, m msg) {
	last := lastOf(was.Shop, m.Who)
	switch {
	case modelHas(was.Past, m.Who, m.Seq):
		p.seen["came again"]++
	case last.Seq == m.Seq && last.Code == impl.ShopClash:
		p.seen["clashed, came again"]++
	case last.Seq < m.Seq && len(p.Past) == len(was.Past):
		p.seen["clashed"]++
	}
	if last.Seq > m.Seq {
		p.seen["came late"]++
	}
}

// modelUntold says whether there is a log that came in of which nothing was told.
func modelUntold(w world) bool {
	return slices.ContainsFunc(w.Past, func(l impl.Log) bool {
		return !slices.ContainsFunc(w.Told, func(x told) bool { return x.Who == l.Who && x.Seq == l.Seq })
	})
}

// Promise 10, of drawn plays with messages that are lost, come twice and late.
func TestToldOfPlays(t *testing.T) {
	seen := map[string]int{}
	for play := range 30 {
		dice := worldDice{keepDice{slimDice{actDice: actDice(3000 + play)}}}
		p := newToldPlay(seen)
		for range 100 + dice.below(101) {
			e := dice.step(p.world)
			p.happens(t, e)
			if impl.OpOk(e.Op) {
				dice.last = e.Op.Id
			}
		}
		p.wantTrees(t)
	}
	wantSeen(t, seen, toldWays, 5)
	wantSeen(t, seen, []string{"came in", "told done", "told clash", "in and not told"}, 50)
}

// lossyStep loses and doubles much more, and sends again what waits.
func lossyStep(d *worldDice, w world) event {
	kinds := []int{1, 1, 2, 2, 2, 3, 3, 3, 3, 4, 4, 5, 5}
	return d.event(w, kinds[d.below(len(kinds))])
}

func TestToldOfLossyPlays(t *testing.T) {
	seen := map[string]int{}
	for play := range 15 {
		dice := worldDice{keepDice{slimDice{actDice: actDice(4000 + play)}}}
		p := newToldPlay(seen)
		for range 200 {
			p.happens(t, lossyStep(&dice, p.world))
		}
		p.wantTrees(t)
	}
	wantSeen(t, seen, toldWays, 5)
}

// A log came in, but its verdict is lost: it is told as done once it is sent again, also if others came in since.
func TestToldOfALostVerdict(t *testing.T) {
	for _, others := range []bool{false, true} {
		p := newToldPlay(map[string]int{})
		p.happens(t, does(t, 0, "file 5 0 a"), sends(0), takes(0), loses(0))
		if len(p.Past) != 1 || len(p.Told) != 0 || len(p.Net) != 0 || !p.Keeps[0].Waits {
			t.Fatalf("%v", p.world)
		}
		if others {
			p.happens(t, sends(1), takes(0), takes(0), does(t, 1, "text 5 =new"), does(t, 1, "move 5 0 a 0 b"), sends(1), takes(0), takes(0))
		}
		past := ownersIn(p.Past)
		p.happens(t, sends(0), twice(0), takes(0), loses(1), takes(0), sends(0), takes(0), takes(0))
		if p.Keeps[0].Waits || !slices.Equal(ownersIn(p.Past), past) || p.Told[len(p.Told)-1] != (told{Seq: 1}) {
			t.Fatalf("%v, %v", p.Past, p.Told)
		}
		p.wantTrees(t)
	}
}

// A log clashes as its directory would be under itself; it comes once more when it could be done, ahead of its verdict or behind it, and never comes in.
func TestToldOfALateClash(t *testing.T) {
	for _, first := range []bool{false, true} {
		p := newToldPlay(map[string]int{})
		p.happens(t, does(t, 0, "dir 1 0 a"), does(t, 0, "dir 2 0 b"), does(t, 0, "dir 3 2 c"), does(t, 0, "dir 4 1 d"), does(t, 0, "dir 5 4 e"))
		p.happens(t, sends(0), takes(0), takes(0), sends(1), takes(0), takes(0))
		// It leans on 1, 3 and 4, which are not turned by what the other one does.
		p.happens(t, does(t, 1, "move 4 1 d 3 x"), sends(1), twice(0), twice(0))
		p.happens(t, does(t, 0, "move 2 0 b 5 y"), sends(0), takes(3), takes(3))
		late := p.Net[0].Log
		if id, at, code := impl.ShopWhy(p.Shop, late); id != -1 || at != 0 || code != impl.ActRing {
			t.Fatalf("%d, %d, %d", id, at, code)
		}
		p.happens(t, takes(0))
		if first {
			p.happens(t, takes(2))
		}
		if (lastTold(p.world, 1) == impl.ShopClash) != first {
			t.Fatalf("%v", p.Told)
		}
		p.happens(t, does(t, 0, "move 2 5 y 0 b"), sends(0), takes(len(p.Net)), takes(len(p.Net)))
		if id, at, code := impl.ShopWhy(p.Shop, late); id != -1 || at != -1 || code != impl.ActFine {
			t.Fatalf("%d, %d, %d", id, at, code)
		}
		server := p.Shop
		for len(p.Net) > 0 {
			p.happens(t, takes(0))
		}
		if len(p.Past) != 3 || !impl.ShopSame(p.Shop, server) || modelHas(p.Past, 1, late.Seq) || lastTold(p.world, 1) != impl.ShopClash {
			t.Fatalf("%v, %v", p.Past, p.Told)
		}
		p.wantTrees(t)
		// Folded as if it had come in, the server's tree would be another one.
		if x := wantFold(t, "late", append(slices.Clone(p.Past), late), 4, true); impl.TreeSame(x, p.Shop.Tree) {
			t.Error("it does nothing")
		}
	}
}

func lastTold(w world, who int) int {
	code := -1
	for _, x := range w.Told {
		if x.Who == who {
			code = x.Code
		}
	}
	return code
}

// A log comes late, behind the next one of its client: it is old, and nothing is told of it once more.
func TestToldOfALateLog(t *testing.T) {
	p := newToldPlay(map[string]int{})
	p.happens(t, does(t, 0, "file 5 0 a"), sends(0), twice(0), takes(0), takes(1))
	p.happens(t, does(t, 0, "text 5 =x"), sends(0), takes(1), takes(1), takes(0))
	wantNet(t, p.world, "verdict 0 1 old")
	p.happens(t, takes(0))
	if !slices.Equal(p.Told, []told{{Seq: 1}, {Seq: 2}}) || !slices.Equal(ownersIn(p.Past), []string{"0.1", "0.2"}) {
		t.Errorf("%v, %v", ownersIn(p.Past), p.Told)
	}
	p.wantTrees(t)
}

// With all room in Past and Told gone it still holds.
func TestToldOfAFullPast(t *testing.T) {
	p := newToldPlay(map[string]int{})
	p.happens(t, busyPlay(t, 4*59+1)...)
	p.happens(t, sends(0), takes(0), loses(0), sends(1), takes(0), takes(0), does(t, 1, "text 1 =z"), sends(1))
	p.happens(t, twice(0), takes(0), sends(0), takes(1), takes(0), sends(0), takes(0))
	if len(p.Past) != impl.WorldPast || len(p.Told) != impl.WorldPast-1 || !p.Keeps[0].Waits || !p.Keeps[1].Waits {
		t.Errorf("%d in Past, %d told, %v", len(p.Past), len(p.Told), p.Net)
	}
	p.wantTrees(t)
}

// tampered is a world of which one part or two were changed, so that it is no more what came of events.
func tampered(d *worldDice, w world) world {
	w = copyWorld(w)
	for range 1 + d.below(2) {
		i, j := d.below(max(1, len(w.Past))), d.below(max(1, len(w.Past)))
		switch n := d.below(9); {
		case n == 0:
			w.Told = append(w.Told, told{Who: d.below(impl.LogWho), Seq: 1 + d.below(12), Code: d.below(4)})
		case n == 1 && len(w.Told) > 0:
			w.Told[d.below(len(w.Told))].Code = d.below(3)
		case n == 2:
			w.Shop.Tree, _ = impl.ActDo(w.Shop.Tree, d.next(w.Shop.Tree))
		case n == 3:
			w.Keeps[d.below(impl.LogWho)].Seq = d.below(1003) - 1
		case len(w.Past) == 0:
		case n == 4:
			w.Past = slices.Delete(w.Past, i, i+1)
		case n == 5:
			w.Past = slices.Insert(w.Past, i, copyLog(w.Past[j]))
		case n == 6:
			w.Past[i], w.Past[j] = w.Past[j], w.Past[i]
		case n == 7:
			w.Past[i].Seq = 1 + d.below(12)
		case n == 8:
			w.Past[i].Who = d.below(impl.LogWho)
		}
	}
	return w
}

// Drawn worlds of which all three are asked, and those that came of plays, changed behind these.
func TestToldOfDrawnWorlds(t *testing.T) {
	dice, seen := worldDice{keepDice{slimDice{actDice: 5000}}}, map[string]int{}
	for range 25 {
		played := impl.WorldOpen()
		for range 150 {
			played = impl.WorldDo(played, dice.step(played))
		}
		for range 25 {
			w := tampered(&dice, played)
			if dice.below(8) == 0 {
				w = dice.world(t)
			}
			want := modelTold(w)
			wantTold(t, "drawn", w, want)
			seen[fmt.Sprint("tree ", want.tree)]++
			seen[fmt.Sprint("once ", want.once)]++
			seen[fmt.Sprint("told ", want.told)]++
			seen[fmt.Sprint("ok ", impl.WorldOk(w))]++
		}
	}
	wantSeen(t, seen, []string{"tree true", "tree false", "once true", "once false", "told true", "told false", "ok true", "ok false"}, 10)
}
