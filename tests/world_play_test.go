package tests

import (
	"fmt"
	"math"
	"slices"
	"testing"

	"loop.example/shieling/impl"
)

// worldDice draws worlds that are ok, whose parts need not fit each other, and events.
type worldDice struct {
	keepDice
}

func (d *worldDice) world(t *testing.T) world {
	t.Helper()
	_, x := d.list(impl.TreeOpen(), d.below(25))
	w := world{Shop: impl.Shop{Tree: x}}
	for who := range impl.LogWho {
		k := d.keep()
		k.Who = who
		if d.below(8) == 0 {
			k.Seq = impl.LogSeq
		}
		w.Keeps = append(w.Keeps, k)
		if d.below(2) == 0 {
			w.Shop.Dones = append(w.Shop.Dones, lastLog(who, max(1, min(1000, k.Seq+d.below(3)-1)), d.below(2)))
		}
	}
	for range d.many(impl.WorldNet) {
		w.Net = append(w.Net, d.onWay(t, w))
	}
	for range d.many(impl.WorldPast) {
		w.Past = append(w.Past, d.log(w, x))
	}
	for range d.many(impl.WorldPast) {
		w.Told = append(w.Told, impl.Told{Who: d.below(impl.LogWho), Seq: 1 + d.below(9), Code: d.below(3)})
	}
	return w
}

// many is now and then as many as there can be, or one fewer.
func (d *worldDice) many(most int) int {
	switch d.below(8) {
	case 0, 1:
		return most
	case 2:
		return most - 1
	}
	return d.below(8)
}

func (d *worldDice) log(w world, x impl.Tree) impl.Log {
	list, _ := d.list(x, d.below(5))
	if d.below(4) == 0 {
		list = append(list, d.op(x))
	}
	who := d.below(impl.LogWho)
	return impl.LogMake(x, who, max(1, min(1000, w.Keeps[who].Seq+d.below(3)-1)), list)
}

// onWay is an ok message: to a client, or to the server, mostly with a log of the server's tree.
func (d *worldDice) onWay(t *testing.T, w world) msg {
	t.Helper()
	if d.below(2) == 0 {
		x := w.Shop.Tree
		if d.below(4) == 0 {
			x = w.Keeps[d.below(impl.LogWho)].Base
		}
		return logMsg(d.log(w, x))
	}
	for {
		if m := d.message(t, w.Keeps[d.below(impl.LogWho)]); modelMsgOk(m) {
			return m
		}
	}
}

// event is of any kind, client and message, of none now and then.
func (d *worldDice) event(w world, kind int) event {
	e := event{Kind: kind, A: d.below(impl.LogWho), B: d.below(impl.KeepShelf+2) - 1}
	if kind >= impl.EventTakes && kind <= impl.EventTwice {
		e.A = d.below(max(1, len(w.Net)))
	}
	if d.below(6) == 0 {
		e.A = []int{-1, impl.LogWho, len(w.Net), len(w.Net) + 1, math.MinInt, math.MaxInt}[d.below(6)]
	}
	if e.A >= 0 && e.A < impl.LogWho {
		x := impl.KeepView(w.Keeps[e.A])
		switch d.below(8) {
		case 0:
			e.Op = op{Kind: d.below(7), Id: d.below(40), Dir: d.below(40), Name: "a"}
		case 1:
			e.Op = d.op(x)
		default:
			e.Op = d.next(x)
		}
	}
	return e
}

// step is an event as they come in a play: much is done, sent and taken, and little is lost.
func (d *worldDice) step(w world) event {
	kinds := []int{1, 1, 1, 1, 1, 2, 2, 2, 3, 3, 3, 3, 3, 3, 4, 5, 5, 6, 0, 7}
	return d.event(w, kinds[d.below(len(kinds))])
}

// happenedWays is all ways in which an event can come that countHappened names.
var happenedWays = []string{
	"does 0", "does 1", "does 2", "does 3", "does 4", "does 5", "does 6", "does 7", "does 8",
	"sends a log", "sends a fetch", "sends once more", "sends none", "sends, lost",
	"takes a fetch", "takes a log, done", "takes a log, clash", "takes a log, known", "takes a log, old", "takes a log, lost",
	"takes a tree", "takes a tree, no use", "takes a verdict", "takes a verdict, told full", "takes a verdict, no use",
	"loses", "twice", "twice, lost", "clears", "clears none", "nobody", "no message", "no kind",
}

// countHappened names in which way an event came.
func countHappened(seen map[string]int, w world, e event, got world) {
	clients := e.Kind == impl.EventDoes || e.Kind == impl.EventSends || e.Kind == impl.EventClears
	switch {
	case e.Kind < 1 || e.Kind > 6:
		seen["no kind"]++
	case clients && (e.A < 0 || e.A >= impl.LogWho):
		seen["nobody"]++
	case !clients && (e.A < 0 || e.A >= len(w.Net)):
		seen["no message"]++
	case e.Kind == impl.EventDoes:
		_, code := modelKeepDo(w.Keeps[e.A], e.Op)
		seen[fmt.Sprint("does ", code)]++
	case e.Kind == impl.EventSends:
		seen[sentName(w.Keeps[e.A], w, got)]++
	case e.Kind == impl.EventTakes:
		seen["takes a "+tookWay(w.Net[e.A], w, got)]++
	case e.Kind == impl.EventLoses:
		seen["loses"]++
	case e.Kind == impl.EventTwice && len(w.Net) == impl.WorldNet:
		seen["twice, lost"]++
	case e.Kind == impl.EventTwice:
		seen["twice"]++
	case e.B >= 0 && e.B < len(w.Keeps[e.A].Shelf):
		seen["clears"]++
	default:
		seen["clears none"]++
	}
}

func sentName(k keep, w world, got world) string {
	_, out := modelKeepSend(k)
	switch {
	case len(out) == 0:
		return "sends none"
	case len(got.Net) == len(w.Net):
		return "sends, lost"
	case k.Waits:
		return "sends once more"
	case out[0].Kind == impl.MsgFetch:
		return "sends a fetch"
	}
	return "sends a log"
}

func tookWay(m msg, w world, got world) string {
	last := lastOf(w.Shop, m.Who)
	switch {
	case m.Kind == impl.MsgFetch:
		return "fetch"
	case m.Kind == impl.MsgLog && len(w.Past) == impl.WorldPast:
		return "log, lost"
	case m.Kind == impl.MsgLog && last.Seq > m.Seq:
		return "log, old"
	case m.Kind == impl.MsgLog && last.Seq == m.Seq:
		return "log, known"
	case m.Kind == impl.MsgLog && len(got.Past) > len(w.Past):
		return "log, done"
	case m.Kind == impl.MsgLog:
		return "log, clash"
	case m.Kind == impl.MsgTree && equalKeeps(w.Keeps[m.Who], got.Keeps[m.Who]):
		return "tree, no use"
	case m.Kind == impl.MsgTree:
		return "tree"
	case w.Keeps[m.Who].Waits == got.Keeps[m.Who].Waits:
		return "verdict, no use"
	case len(w.Told) == impl.WorldPast:
		return "verdict, told full"
	}
	return "verdict"
}

func wantSeen(t *testing.T, seen map[string]int, ways []string, least int) {
	t.Helper()
	for _, way := range ways {
		if seen[way] < least {
			t.Errorf("%s: %d times only", way, seen[way])
		}
	}
}

// Promise 9, of drawn worlds and each kind of event.
func TestWorldStaysOk(t *testing.T) {
	dice, seen := worldDice{keepDice{slimDice{actDice: 1000}}}, map[string]int{}
	for range 150 {
		w := dice.world(t)
		wantWorldOkOrNot(t, "drawn", w, true)
		for _, kind := range []int{-1, 0, 1, 1, 1, 1, 2, 2, 3, 3, 3, 3, 3, 4, 5, 6, 6, 7} {
			e := dice.event(w, kind)
			countHappened(seen, w, e, wantHappens(t, w, e))
		}
	}
	wantSeen(t, seen, happenedWays, 4)
}

// Promise 9, of drawn plays; WorldPlay is WorldDo of each event, in order.
func TestWorldPlays(t *testing.T) {
	seen := map[string]int{}
	for play := range 40 {
		dice := worldDice{keepDice{slimDice{actDice: actDice(1100 + play)}}}
		start := impl.WorldOpen()
		if play%3 == 0 {
			start = dice.world(t)
		}
		was := copyWorld(start)
		w, events := start, []event{}
		for range 100 + dice.below(201) {
			e := dice.step(w)
			next := wantHappens(t, w, e)
			countHappened(seen, w, e, next)
			w, events = next, append(events, e)
			if impl.OpOk(e.Op) {
				dice.last = e.Op.Id
			}
		}
		wantPlayed(t, start, events, w)
		for _, cut := range []int{0, 1, len(events) / 2, len(events) - 1, len(events)} {
			wantWorld(t, fmt.Sprint("cut at ", cut), impl.WorldPlay(impl.WorldPlay(start, events[:cut]), events[cut:]), w)
		}
		if parts := partsApart(start, was); len(parts) > 0 {
			t.Errorf("the world that was handed in is another one in %v", parts)
		}
	}
	wantSeen(t, seen, []string{"does 0", "sends a log", "sends a fetch", "takes a log, done", "takes a log, clash", "takes a verdict"}, 50)
	wantSeen(t, seen, happenedWays, 5)
}

// wantPlayed asks for WorldPlay of events of which it is known what they leave.
func wantPlayed(t *testing.T, w world, events []event, want world) {
	t.Helper()
	was := slices.Clone(events)
	wantWorld(t, fmt.Sprint("a play of ", len(events)), impl.WorldPlay(w, events), want)
	if !slices.Equal(events, was) {
		t.Error("WorldPlay leaves other events")
	}
}

func TestWorldPlayOfBounds(t *testing.T) {
	for _, w := range []world{plainWorld(t), fullWorld(t), impl.WorldOpen()} {
		wantPlayed(t, w, nil, w)
		wantPlayed(t, w, []event{}, w)
		for _, e := range anyEvents(t) {
			wantPlayed(t, w, []event{e}, wantHappens(t, w, e))
		}
		for _, many := range []int{299, 300} {
			wantPlayed(t, w, make([]event, many), w)
			wantPlayed(t, w, slices.Repeat([]event{clears(1, 0)}, many), changedWorld(w, func(w *world) { w.Keeps[1].Shelf = nil }))
		}
		for _, many := range []int{301, 302, 600, 100000} {
			for _, e := range []event{{}, sends(0), takes(-1)} {
				if got := impl.WorldPlay(w, slices.Repeat([]event{e}, many)); !isNoWorld(got) {
					t.Errorf("a play of %d: %v", many, got)
				}
			}
		}
	}
	wantNoWorld(t, "nothing", world{})
	for _, many := range []int{0, 300, 301} {
		if got := impl.WorldPlay(changedWorld(plainWorld(t), func(w *world) { w.Net[0].Kind = 5 }), make([]event, many)); !isNoWorld(got) {
			t.Errorf("a play of %d of what is no world: %v", many, got)
		}
	}
}

// The last of WorldPlays events happens, and each comes behind the one ahead of it.
func TestWorldPlayInOrder(t *testing.T) {
	most := make([]event, impl.WorldPlays)
	most[0], most[299] = does(t, 0, "dir 3 0 a"), does(t, 0, "file 4 3 b")
	w := impl.WorldPlay(impl.WorldOpen(), most)
	if len(w.Keeps) != 3 || !slices.Equal(linesOf(w.Keeps[0].List), []string{"dir 3 0 a", "file 4 3 b"}) {
		t.Errorf("%v", w)
	}
	most[0], most[299] = most[299], most[0]
	w = impl.WorldPlay(impl.WorldOpen(), most)
	if len(w.Keeps) != 3 || !slices.Equal(linesOf(w.Keeps[0].List), []string{"dir 3 0 a"}) {
		t.Errorf("%v", w)
	}
}

// busyPlay lets a client's logs come in, one behind the other, each told ahead of the next.
func busyPlay(t *testing.T, many int) []event {
	t.Helper()
	events := []event{does(t, 0, "file 1 0 a")}
	for len(events)+4 <= many {
		events = append(events, sends(0), takes(0), takes(0), does(t, 0, "text 1 =t"))
	}
	return events
}

// As many logs come in as Past has room for; then a log is lost however often it is sent.
func TestWorldPlayTillPastIsFull(t *testing.T) {
	w := impl.WorldPlay(impl.WorldOpen(), busyPlay(t, 4*59+1))
	if len(w.Past) != 59 || len(w.Told) != 59 || len(w.Keeps[0].List) != 1 {
		t.Fatalf("%d in Past, %d told", len(w.Past), len(w.Told))
	}
	w = impl.WorldPlay(w, []event{sends(0), takes(0), takes(0), does(t, 0, "text 1 =u")})
	if len(w.Past) != 60 || len(w.Told) != 60 || w.Past[59].Seq != 60 || w.Told[59] != (impl.Told{Seq: 60}) || w.Keeps[0].Waits {
		t.Fatalf("%d in Past, %d told", len(w.Past), len(w.Told))
	}
	server := copyWorld(w).Shop
	for range 3 {
		w = wantHappens(t, w, sends(0))
		w = wantHappens(t, w, takes(0))
		if !w.Keeps[0].Waits || len(w.Past) != 60 || len(w.Net) != 0 || !equalShops(w.Shop, server) {
			t.Fatalf("%v", w)
		}
	}
	// A fetch of another client is answered, and he sees what came in.
	w = impl.WorldPlay(w, []event{sends(1), takes(0), takes(0)})
	if !impl.TreeSame(w.Keeps[1].Base, server.Tree) || server.Tree.Objs[1].Text != "t" {
		t.Errorf("%v", w.Keeps[1])
	}
	full := busyPlay(t, impl.WorldPlays)
	wantPlayed(t, impl.WorldOpen(), full, modelPlay(impl.WorldOpen(), full))
}

func modelPlay(w world, events []event) world {
	for _, e := range events {
		w = modelHappens(w, e)
	}
	return w
}

// Messages come till WorldNet are on their way; the rest is lost, and all that is there can still be taken.
func TestWorldPlayTillTheNetIsFull(t *testing.T) {
	events := []event{does(t, 1, "dir 3 0 a")}
	for i := range 60 {
		events = append(events, sends(i%impl.LogWho), twice(i%4))
	}
	w := impl.WorldPlay(impl.WorldOpen(), events)
	wantWorld(t, "a full net", w, modelPlay(impl.WorldOpen(), events))
	if len(w.Net) != 24 || w.Keeps[0].Seq != 20 || w.Keeps[1].Seq != 1 || !w.Keeps[1].Waits {
		t.Fatalf("%d on their way, %v", len(w.Net), w.Keeps)
	}
	for many := 0; len(w.Net) > 0; many++ {
		w = wantHappens(t, w, takes(0))
		if many > 48 {
			t.Fatal("it does not get quiet")
		}
	}
	if len(w.Past) != 1 || len(w.Told) != 1 || w.Keeps[1].Waits || impl.TreePath(w.Keeps[1].Base, 3) != "/a" {
		t.Errorf("%v", w)
	}
}

// One log, whole: it is sent, lost, sent again, comes twice and late; somebody else's clashes with it.
func TestWorldOfTwoWhoMeet(t *testing.T) {
	w := impl.WorldPlay(impl.WorldOpen(), []event{
		does(t, 0, "dir 1 0 a"), does(t, 0, "file 5 1 b"), does(t, 2, "dir 7 0 a"),
		sends(0), sends(2), loses(0), sends(0), twice(1), sends(2),
	})
	texts := []string{"log 2 1 0/1 7/0, dir 7 0 a", "log 0 1 0/1 1/0 5/0, dir 1 0 a, file 5 1 b"}
	wantNet(t, w, texts[0], texts[1], texts[1], texts[0])
	w = wantHappens(t, w, takes(1))
	wantNet(t, w, texts[0], texts[1], texts[0], "verdict 0 1 done")
	w = wantHappens(t, w, takes(0))
	wantNet(t, w, texts[1], texts[0], "verdict 0 1 done", "verdict 2 1 clash")
	w = wantHappens(t, w, takes(3))
	w = wantHappens(t, w, takes(1))
	wantNet(t, w, texts[1], "verdict 0 1 done", "verdict 2 1 clash")
	for _, at := range []int{0, 2, 0, 0, 0} {
		w = wantHappens(t, w, takes(at))
	}
	if len(w.Net) != 0 || len(w.Past) != 1 || !slices.Equal(w.Told, []impl.Told{{Who: 2, Seq: 1, Code: impl.ShopClash}, {Seq: 1}}) {
		t.Errorf("%v, %v", w.Told, w.Net)
	}
	if len(w.Keeps[2].Shelf) != 1 || !slices.Equal(linesOf(w.Keeps[2].Shelf[0]), []string{"dir 7 0 a"}) || impl.TreePath(w.Keeps[2].Base, 5) != "/a/b" {
		t.Errorf("%v", w.Keeps[2])
	}
	w = wantHappens(t, w, clears(2, 0))
	if len(w.Keeps[2].Shelf) != 0 {
		t.Errorf("%v", w.Keeps[2])
	}
}

func wantNet(t *testing.T, w world, texts ...string) {
	t.Helper()
	var net []string
	for _, m := range w.Net {
		net = append(net, impl.MsgText(m))
	}
	if !slices.Equal(net, texts) {
		t.Fatalf("on their way are %q, not %q", net, texts)
	}
}
