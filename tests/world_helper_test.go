package tests

import (
	"fmt"
	"slices"
	"testing"

	"loop.example/shieling/impl"
)

type (
	world = impl.World
	event = impl.Event
)

// plainWorld has something in each of its parts; its log, 1.3, can come in, and its messages can be taken by those to whom they go.
func plainWorld(t *testing.T) world {
	t.Helper()
	return world{
		Shop: plainShop(),
		Keeps: []keep{
			{Who: 0, Seq: 4, Base: impl.TreeOpen(), List: opsOf(t, "dir 3 0 x", "file 4 3 y"), Shelf: [][]op{opsOf(t, "text 2 =lost")}},
			waitingKeep(t),
			changedKeep(restingKeep(t), func(k *keep) { k.Who, k.Seq = 2, 8 }),
		},
		Net: []msg{
			fetchMsg(0, 4),
			treeMsg(2, 8, behind(t, turnedTree(), "dir 20 0 far")),
			logMsg(plainLog(t)),
			verdictMsg(1, 3, impl.ShopClash, turnedTree()),
		},
		Past: []impl.Log{pastLog(t, 0, 4), pastLog(t, 2, 6)},
		Told: []impl.Told{{Who: 0, Seq: 4, Code: impl.ShopDone}, {Who: 2, Seq: 7, Code: impl.ShopClash}},
	}
}

func pastLog(t *testing.T, who int, seq int) impl.Log {
	t.Helper()
	return impl.LogMake(impl.TreeOpen(), who, seq, opsOf(t, "dir 3 0 x", "file 4 3 y"))
}

func changedWorld(w world, change func(w *world)) world {
	w = copyWorld(w)
	change(&w)
	return w
}

// withNet lets messages that nobody needs go behind those of a world, till there are so many.
func withNet(w world, many int) world {
	return changedWorld(w, func(w *world) {
		w.Net = upTo(w.Net, many, func(at int) msg { return fetchMsg(at%impl.LogWho, 500+at) })
	})
}

// withPast lets logs be behind those of a world, till there are so many.
func withPast(t *testing.T, w world, many int) world {
	t.Helper()
	return changedWorld(w, func(w *world) {
		w.Past = upTo(w.Past, many, func(at int) impl.Log { return pastLog(t, at%impl.LogWho, 500+at) })
	})
}

func withTold(w world, many int) world {
	return changedWorld(w, func(w *world) {
		w.Told = upTo(w.Told, many, func(at int) impl.Told { return impl.Told{Who: at % impl.LogWho, Seq: 500 + at, Code: at % 3} })
	})
}

func upTo[T any](list []T, many int, next func(at int) T) []T {
	for len(list) < many {
		list = append(list, next(len(list)))
	}
	return list
}

// fullWorld has no more room anywhere but on shelves.
func fullWorld(t *testing.T) world {
	t.Helper()
	return withTold(withPast(t, withNet(plainWorld(t), impl.WorldNet), impl.WorldPast), impl.WorldPast)
}

func copyWorld(w world) world {
	w.Shop, w.Told = copyShop(w.Shop), slices.Clone(w.Told)
	w.Keeps, w.Net, w.Past = copiesOf(w.Keeps, copyKeep), copiesOf(w.Net, copyMsg), copiesOf(w.Past, copyLog)
	return w
}

func copiesOf[T any](list []T, one func(x T) T) []T {
	var copies []T
	for _, x := range list {
		copies = append(copies, one(x))
	}
	return copies
}

// partsApart names the parts in which two worlds differ; it is told apart from WorldSame, which is asked itself.
func partsApart(a world, b world) []string {
	var parts []string
	if !equalShops(a.Shop, b.Shop) {
		parts = append(parts, "the server")
	}
	parts = append(parts, placesApart("client", a.Keeps, b.Keeps, equalKeeps)...)
	parts = append(parts, placesApart("message", a.Net, b.Net, equalMsgs)...)
	parts = append(parts, placesApart("log that came in", a.Past, b.Past, equalLogs)...)
	return append(parts, placesApart("what was told", a.Told, b.Told, func(x, y impl.Told) bool { return x == y })...)
}

func placesApart[T any](name string, a []T, b []T, equal func(x T, y T) bool) []string {
	var places []string
	for at := range max(len(a), len(b)) {
		if at >= len(a) || at >= len(b) || !equal(a[at], b[at]) {
			places = append(places, fmt.Sprint(name, " ", at))
		}
	}
	return places
}

func equalWorlds(a world, b world) bool { return len(partsApart(a, b)) == 0 }

func isNoWorld(w world) bool { return equalWorlds(w, world{}) }

// modelWorldOk is what chapter 9 says, part by part.
func modelWorldOk(w world) bool {
	if !impl.TreeOk(w.Shop.Tree) || len(w.Keeps) != 3 || len(w.Net) > 24 || len(w.Past) > 60 || len(w.Told) > 60 {
		return false
	}
	for at, d := range w.Shop.Dones {
		if !doneOk(d) || at > 0 && w.Shop.Dones[at-1].Who >= d.Who {
			return false
		}
	}
	for who, k := range w.Keeps {
		if k.Who != who || !modelKeepOk(k) {
			return false
		}
	}
	for _, l := range w.Past {
		if !impl.LogOk(l) {
			return false
		}
	}
	return !slices.ContainsFunc(w.Net, func(m msg) bool { return !modelMsgOk(m) }) &&
		!slices.ContainsFunc(w.Told, func(x impl.Told) bool { return !modelToldOk(x) })
}

func modelToldOk(x impl.Told) bool {
	return x.Who >= 0 && x.Who <= 2 && x.Seq >= 1 && x.Seq <= 1000 && x.Code >= 0 && x.Code <= 2
}

// modelHappens takes an ok world and any event, with what clients and the server do told by their models.
func modelHappens(w world, e event) world {
	w = copyWorld(w)
	client, message := e.A >= 0 && e.A <= 2, e.A >= 0 && e.A < len(w.Net)
	switch {
	case client && e.Kind == 1:
		w.Keeps[e.A], _ = modelKeepDo(w.Keeps[e.A], e.Op)
	case client && e.Kind == 2:
		k, out := modelKeepSend(w.Keeps[e.A])
		w.Keeps[e.A] = k
		w.Net = modelSent(w.Net, out)
	case message && e.Kind == 3:
		m := w.Net[e.A]
		w.Net = slices.Delete(w.Net, e.A, e.A+1)
		return modelComes(w, m)
	case message && e.Kind == 4:
		w.Net = slices.Delete(w.Net, e.A, e.A+1)
	case message && e.Kind == 5:
		w.Net = modelSent(w.Net, w.Net[e.A:e.A+1])
	case client && e.Kind == 6:
		w.Keeps[e.A] = modelKeepClear(w.Keeps[e.A], e.B)
	}
	return w
}

func modelSent(net []msg, msgs []msg) []msg {
	net = slices.Concat(net, msgs)
	return net[:min(len(net), 24)]
}

// modelComes takes an ok message that is off its way.
func modelComes(w world, m msg) world {
	switch {
	case m.Kind == 3 && len(w.Past) == 60:
	case m.Kind == 1 || m.Kind == 3:
		served := modelServe(w.Shop, m)
		w.Shop, w.Net = served.shop, modelSent(w.Net, served.back)
		if served.came {
			w.Past = append(w.Past, m.Log)
		}
	default:
		k, end := modelKeepTake(w.Keeps[m.Who], m)
		w.Keeps[m.Who] = k
		if end && len(w.Told) < 60 {
			w.Told = append(w.Told, impl.Told{Who: m.Who, Seq: m.Seq, Code: m.Code})
		}
	}
	return w
}

// wantHappens asks for all of WorldDo of an ok world and any event, and for promise 9; it gives the world behind it.
func wantHappens(t *testing.T, w world, e event) world {
	t.Helper()
	was := copyWorld(w)
	got := impl.WorldDo(w, e)
	wantWorld(t, eventText(e), got, modelHappens(was, e))
	if parts := partsApart(w, was); len(parts) > 0 {
		t.Fatalf("%s: of the world that was handed in are others: %v", eventText(e), parts)
	}
	return got
}

// wantWorld asks for a world that is ok, and just that one.
func wantWorld(t *testing.T, what string, got world, want world) {
	t.Helper()
	if parts := partsApart(got, want); len(parts) > 0 {
		t.Fatalf("%s: it is not as asked in %v", what, parts)
	}
	if !impl.WorldOk(got) || !modelWorldOk(got) {
		t.Fatalf("%s: leaves a world that is not ok: %v", what, got)
	}
	if !impl.WorldSame(got, want) {
		t.Fatalf("%s: the two are the same, but WorldSame is false", what)
	}
}

// wantJust is wantHappens of an event of which it is known what comes of it.
func wantJust(t *testing.T, w world, e event, change func(w *world)) world {
	t.Helper()
	got := wantHappens(t, w, e)
	wantWorld(t, eventText(e), got, changedWorld(w, change))
	return got
}

// wantIdle is wantHappens of an event by which nothing comes.
func wantIdle(t *testing.T, w world, e event) {
	t.Helper()
	wantJust(t, w, e, func(w *world) {})
}

func eventText(e event) string {
	kinds := []string{"does", "sends", "takes", "loses", "twice", "clears"}
	if e.Kind < 1 || e.Kind > len(kinds) {
		return fmt.Sprintf("kind %d of %d and %d", e.Kind, e.A, e.B)
	}
	return fmt.Sprintf("%s %d, %d, %q", kinds[e.Kind-1], e.A, e.B, lineText(e.Op))
}

func does(t *testing.T, who int, line string) event {
	t.Helper()
	return event{Kind: impl.EventDoes, A: who, Op: opsOf(t, line)[0]}
}

func sends(who int) event { return event{Kind: impl.EventSends, A: who} }

func takes(at int) event { return event{Kind: impl.EventTakes, A: at} }

func loses(at int) event { return event{Kind: impl.EventLoses, A: at} }

func twice(at int) event { return event{Kind: impl.EventTwice, A: at} }

func clears(who int, place int) event { return event{Kind: impl.EventClears, A: who, B: place} }

// anyEvents is an event of each kind that would do something in plainWorld, and some that would not.
func anyEvents(t *testing.T) []event {
	t.Helper()
	events := []event{does(t, 1, "dir 12 0 n"), does(t, 0, "gone 9 0 a"), sends(1), sends(2), clears(1, 0), clears(1, 7), {}, {Kind: 7}}
	for at := range 5 {
		events = append(events, takes(at), loses(at), twice(at))
	}
	return events
}

// wantNoWorld asks that a world is not ok, and that all others give nothing of it.
func wantNoWorld(t *testing.T, why string, w world) {
	t.Helper()
	was := copyWorld(w)
	if impl.WorldOk(w) || modelWorldOk(w) {
		t.Errorf("%s: is ok", why)
	}
	for _, e := range []event{{}, sends(0), takes(0), {Kind: impl.EventDoes}, loses(-1), clears(2, 0)} {
		if got := impl.WorldDo(w, e); !isNoWorld(got) {
			t.Errorf("%s: WorldDo of %s = %v", why, eventText(e), got)
		}
	}
	for _, events := range [][]event{nil, {sends(0)}, {{}, {}}} {
		if got := impl.WorldPlay(w, events); !isNoWorld(got) {
			t.Errorf("%s: WorldPlay of %d = %v", why, len(events), got)
		}
	}
	if parts := partsApart(w, was); len(parts) > 0 {
		t.Errorf("%s: of the world are others: %v", why, parts)
	}
}

// wantWorldOkOrNot is for a world of which it is known whether it is ok.
func wantWorldOkOrNot(t *testing.T, why string, w world, ok bool) {
	t.Helper()
	if !ok {
		wantNoWorld(t, why, w)
		return
	}
	if !impl.WorldOk(w) || !modelWorldOk(w) {
		t.Fatalf("%s: is not ok", why)
	}
	wantIdle(t, w, event{})
}
