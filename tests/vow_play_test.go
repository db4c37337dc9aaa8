package tests

import (
	"fmt"
	"slices"
	"testing"

	"loop.example/shieling/impl"
)

// vowPlay goes from event to event, and asks for promise 11 behind each; it keeps the trees that the server had, and the logs that were sent.
type vowPlay struct {
	world
	trees []impl.Tree
	sent  []msg
	seen  map[string]int
}

func newVowPlay(seen map[string]int) *vowPlay {
	w := impl.WorldOpen()
	return &vowPlay{world: w, trees: []impl.Tree{w.Shop.Tree}, seen: seen}
}

func (p *vowPlay) happens(t *testing.T, events ...event) {
	t.Helper()
	for _, e := range events {
		was := p.world
		p.world = impl.WorldDo(was, e)
		wantVows(t, eventText(e), p.world, allVows)
		p.keep(was, e)
		p.wantKept(t)
		p.count()
		if t.Failed() {
			t.Fatalf("behind %s", eventText(e))
		}
	}
}

// keep is told apart from Past and Net: a log is sent even where it is lost at once.
func (p *vowPlay) keep(was world, e event) {
	if !impl.TreeSame(p.Shop.Tree, was.Shop.Tree) {
		p.trees = append(p.trees, copyTree(p.Shop.Tree))
	}
	if e.Kind == impl.EventSends && e.A >= 0 && e.A < impl.LogWho {
		_, out := impl.KeepSend(was.Keeps[e.A])
		p.sent = append(p.sent, out...)
	}
}

// wantKept asks by the words of the promise.
func (p *vowPlay) wantKept(t *testing.T) {
	t.Helper()
	for who, k := range p.Keeps {
		if !isAmong(p.trees, k.Base) {
			t.Fatalf("client %d began with %v", who, k.Base)
		}
	}
	for at, m := range p.Net {
		if m.Kind == impl.MsgLog && !slices.ContainsFunc(p.sent, func(x msg) bool { return equalMsgs(x, m) }) {
			t.Fatalf("message %d, %s, was never sent", at, modelText(m))
		}
		if m.Kind%2 == 0 && !isAmong(p.trees, m.Tree) {
			t.Fatalf("message %d, %s, has a tree that the server never had", at, modelText(m))
		}
	}
}

// vowWays is what count names.
var vowWays = []string{
	"a log of before", "a log that its client waits for", "a log that came in, its client waits", "a log that came in and was told",
	"a log that clashed and was told", "a tree as it is", "a tree as it was", "a verdict as it is", "a verdict as it was",
	"a client as it is", "a client as it was",
}

func (p *vowPlay) count() {
	for _, k := range p.Keeps {
		p.seen["a client as it "+p.isOrWas(k.Base)]++
	}
	for _, m := range p.Net {
		switch m.Kind {
		case impl.MsgTree:
			p.seen["a tree as it "+p.isOrWas(m.Tree)]++
		case impl.MsgVerdict:
			p.seen["a verdict as it "+p.isOrWas(m.Tree)]++
		case impl.MsgLog:
			p.seen["a log "+p.wayOf(m)]++
		}
	}
}

func (p *vowPlay) isOrWas(x impl.Tree) string {
	if impl.TreeSame(x, p.Shop.Tree) {
		return "is"
	}
	return "was"
}

func (p *vowPlay) wayOf(m msg) string {
	in, k := modelHas(p.Past, m.Who, m.Seq), p.Keeps[m.Who]
	switch {
	case m.Seq < k.Seq:
		return "of before"
	case k.Waits && in:
		return "that came in, its client waits"
	case k.Waits:
		return "that its client waits for"
	case in && modelHasTold(p.Told, m.Who, m.Seq):
		return "that came in and was told"
	case in:
		return "that came in, Told is full"
	case modelHasTold(p.Told, m.Who, m.Seq):
		return "that clashed and was told"
	}
	return "in neither, Told is full"
}

// Promise 11, of drawn plays with messages that are lost, come twice and late.
func TestVowsOfPlays(t *testing.T) {
	seen := map[string]int{}
	for play := range 30 {
		dice := worldDice{keepDice{slimDice{actDice: actDice(6000 + play)}}}
		p := newVowPlay(seen)
		for range 100 + dice.below(101) {
			e := dice.step(p.world)
			p.happens(t, e)
			if impl.OpOk(e.Op) {
				dice.last = e.Op.Id
			}
		}
	}
	wantSeen(t, seen, vowWays, 30)
}

func TestVowsOfLossyPlays(t *testing.T) {
	seen := map[string]int{}
	for play := range 15 {
		dice := worldDice{keepDice{slimDice{actDice: actDice(7000 + play)}}}
		p := newVowPlay(seen)
		for range 200 {
			p.happens(t, lossyStep(&dice, p.world))
		}
	}
	wantSeen(t, seen, vowWays, 30)
}

// A log came in and is on its way once more: its client waits yet, was told, did something since, sent another one.
func TestVowsOfALogThatCameIn(t *testing.T) {
	seen := map[string]int{}
	p := newVowPlay(seen)
	p.happens(t, does(t, 0, "dir 2 0 a"), does(t, 0, "file 6 2 b"), sends(0), twice(0), twice(0), takes(0))
	if !p.Keeps[0].Waits || len(p.Past) != 1 || len(p.Told) != 0 {
		t.Fatalf("%v", p.world)
	}
	log := "log 0 1 0/1 2/0 6/0, dir 2 0 a, file 6 2 b"
	wantNet(t, p.world, log, log, "verdict 0 1 done")
	p.happens(t, sends(0), does(t, 0, "text 6 =x"), takes(2))
	wantNet(t, p.world, log, log, log)
	if p.Keeps[0].Waits || len(p.Told) != 1 {
		t.Fatalf("%v", p.world)
	}
	p.happens(t, takes(0), takes(2), does(t, 0, "text 6 =y"), sends(0), takes(0), takes(1))
	for len(p.Net) > 0 {
		p.happens(t, takes(0))
	}
	p.happens(t, sends(0), takes(0), takes(0))
	if len(p.Past) != 2 || !slices.Equal(p.Told, []told{toldAs(0, 1, 0), toldAs(0, 2, 0)}) {
		t.Fatalf("%v", p.world)
	}
	wantSeen(t, seen, []string{"a log of before", "a log that came in, its client waits", "a log that came in and was told"}, 3)
}

// It came in, and the verdict is lost, while others turned what it made: it is sent again as it was.
func TestVowsOfALostVerdict(t *testing.T) {
	seen := map[string]int{}
	p := newVowPlay(seen)
	p.happens(t, does(t, 0, "file 5 0 a"), sends(0), takes(0), loses(0))
	p.happens(t, sends(1), takes(0), takes(0), does(t, 1, "gone 5 0 a"), sends(1), twice(0), takes(0), takes(1))
	wantNet(t, p.world, "log 1 2 0/2 5/1, gone 5 0 a")
	p.happens(t, sends(0), sends(0), twice(1), takes(1))
	log := "log 0 1 0/1 5/0, file 5 0 a"
	wantNet(t, p.world, "log 1 2 0/2 5/1, gone 5 0 a", log, log, "verdict 0 1 done")
	p.happens(t, takes(3), takes(2), takes(1), takes(0), takes(0), takes(0), takes(0))
	if len(p.Past) != 2 || len(p.Net) != 0 || len(p.Keeps[0].List) != 0 || !impl.TreeSame(p.Keeps[0].Base, p.Shop.Tree) {
		t.Fatalf("%v", p.world)
	}
	wantSeen(t, seen, []string{"a log that came in, its client waits", "a log that came in and was told"}, 3)
}

// Trees come late, and in another order than they went; whoever begins with one begins with what the server had.
func TestVowsOfLateTrees(t *testing.T) {
	seen := map[string]int{}
	p := newVowPlay(seen)
	p.happens(t, sends(1), twice(0), twice(0), takes(0), does(t, 0, "file 5 0 a"), sends(0), takes(3), takes(3), takes(0))
	p.happens(t, does(t, 0, "text 5 =x"), sends(0), takes(3), takes(3), takes(0))
	wantNet(t, p.world, "tree 1 1", "tree 1 1", "tree 1 1")
	for n, m := range p.Net {
		if !impl.TreeSame(m.Tree, p.trees[n]) {
			t.Fatalf("tree %d is %v", n, m.Tree)
		}
	}
	p.happens(t, takes(1), takes(1), takes(0))
	if !impl.TreeSame(p.Keeps[1].Base, impl.TreeOpen()) || len(p.Past) != 2 {
		t.Fatalf("%v", p.Keeps[1])
	}
	wantSeen(t, seen, []string{"a tree as it is", "a tree as it was", "a client as it was"}, 3)
}

// clashRound lets one's log come in, and another's clash with it; each is told.
func clashRound(t *testing.T, n int) []event {
	t.Helper()
	line := fmt.Sprint("text 5 =t", n)
	return []event{
		does(t, 0, line), does(t, 1, line), sends(0), sends(1),
		takes(0), takes(0), takes(0), takes(0), clears(1, 0), sends(0), takes(0), takes(0),
	}
}

// With Told full a log that clashed is neither in Past nor told any more: what is on its way of it is right nevertheless.
func TestVowsOfAFullTold(t *testing.T) {
	seen := map[string]int{}
	p := newVowPlay(seen)
	p.happens(t, does(t, 0, "file 5 0 a"), sends(0), takes(0), takes(0), sends(1), takes(0), takes(0))
	for n := range 30 {
		p.happens(t, clashRound(t, n)...)
	}
	if len(p.Told) != impl.WorldPast || len(p.Past) >= impl.WorldPast {
		t.Fatalf("%d in Past, %d told", len(p.Past), len(p.Told))
	}
	p.happens(t, does(t, 0, "text 5 =x"), does(t, 1, "text 5 =y"), sends(0), twice(0), sends(1), twice(2))
	p.happens(t, takes(0), takes(1), takes(2), takes(2))
	if p.Keeps[0].Waits || p.Keeps[1].Waits || len(p.Net) != 2 {
		t.Fatalf("%v", p.Net)
	}
	clashed := changedWorld(p.world, func(w *world) { w.Told = w.Told[1:] })
	wantWay(t, "one told fewer", clashed, false)
	for len(p.Net) > 0 {
		p.happens(t, takes(0))
	}
	wantSeen(t, seen, []string{"a log that came in, Told is full", "a log in neither, Told is full"}, 1)
}

// With Past full the server stays as it is, and so does what is on its way.
func TestVowsOfAFullPast(t *testing.T) {
	p := newVowPlay(map[string]int{})
	p.happens(t, busyPlay(t, 4*60+1)...)
	p.happens(t, sends(1), takes(0), takes(0), does(t, 1, "text 1 =z"), sends(0), twice(0), sends(1), takes(0), takes(0), sends(1), takes(0))
	if len(p.Past) != impl.WorldPast || !p.Keeps[0].Waits || !p.Keeps[1].Waits {
		t.Fatalf("%d in Past, %v", len(p.Past), p.Keeps)
	}
}

// tamperedVow is a world of which one part or two were changed, mostly so that it is ok.
func tamperedVow(d *worldDice, w world) world {
	w = copyWorld(w)
	trees := modelHad(w.Past)
	for range 1 + d.below(2) {
		k := &w.Keeps[d.below(impl.LogWho)]
		switch n := d.below(10); {
		case n == 0:
			k.Seq = max(1, k.Seq+d.below(3)-1)
		case n == 1:
			*k = keep{Who: k.Who, Seq: k.Seq, Base: trees[d.below(len(trees))]}
		case n == 2:
			*k = keep{Who: k.Who, Seq: k.Seq, Base: turnedOnce(trees[d.below(len(trees))], d.below(32))}
		case n == 3 && k.Waits:
			k.Sent = k.Sent[:max(1, len(k.Sent)-1)]
		case n == 4 && len(w.Told) > 0:
			w.Told = slices.Delete(w.Told, 0, 1)
		case n == 5 && len(w.Past) > 0:
			w.Past = w.Past[:d.below(len(w.Past))]
		case n > 5 && len(w.Net) > 0:
			tamperMsg(d, &w.Net[d.below(len(w.Net))])
		}
	}
	return w
}

func tamperMsg(d *worldDice, m *msg) {
	switch {
	case m.Kind%2 == 0:
		m.Tree = turnedOnce(m.Tree, d.below(32))
	case m.Kind == impl.MsgLog && d.below(2) == 0:
		m.Log.Bases[d.below(len(m.Log.Bases))].Ver++
	case m.Kind == impl.MsgLog:
		m.Seq += d.below(3) - 1
		m.Log.Seq = m.Seq
	}
}

// Drawn worlds, and those that came of plays, as they are and changed behind these.
func TestVowsOfDrawnWorlds(t *testing.T) {
	dice, seen := worldDice{keepDice{slimDice{actDice: 8000}}}, map[string]int{}
	for range 30 {
		played := impl.WorldOpen()
		for range 100 + dice.below(60) {
			played = impl.WorldDo(played, dice.step(played))
		}
		for range 30 {
			w := tamperedVow(&dice, played)
			switch dice.below(12) {
			case 0:
				w = dice.world(t)
			case 1:
				w = tampered(&dice, played)
			}
			want := modelVows(w)
			wantVows(t, "drawn", w, want)
			seen[fmt.Sprint("ok ", impl.WorldOk(w))]++
			seen[fmt.Sprint("base ", want.base)]++
			seen[fmt.Sprint("way ", want.way)]++
			seen[fmt.Sprint("trees ", want.trees)]++
			seen[fmt.Sprint("all ", want.all)]++
		}
	}
	wantSeen(t, seen, []string{"ok false"}, 5)
	wantSeen(t, seen, []string{"ok true", "base true", "base false", "way true", "way false", "trees true", "trees false", "all true", "all false"}, 30)
}
