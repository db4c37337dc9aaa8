package tests

import (
	"fmt"
	"math"
	"slices"
	"testing"

	"loop.example/shieling/impl"
)

// oddPlaces is each client, message and place of plainWorld and those around, and some far off.
var oddPlaces = []int{math.MinInt, -2, -1, 0, 1, 2, 3, 4, 5, math.MaxInt}

func TestWorldDoes(t *testing.T) {
	w := plainWorld(t)
	for _, c := range []struct {
		who  int
		line string
		code int
	}{
		{0, "dir 12 0 n", impl.ActFine},
		{1, "dir 12 10 n", impl.ActFine},
		{2, "dir 12 31 n", impl.ActFine},
		{0, "gone 3 0 x", impl.ActFull},
		{1, "gone 9 0 a", impl.ActFull},
		{1, "text 2 =x", impl.ActKind},
		{2, "dir 8 0 n", impl.ActUsed},
		{0, "dir 12 31 n", impl.ActDirs},
	} {
		e := does(t, c.who, c.line)
		if c.code != impl.ActFine {
			wantIdle(t, w, e)
		} else {
			wantJust(t, w, e, func(w *world) { w.Keeps[c.who].List = append(w.Keeps[c.who].List, e.Op) })
		}
		if _, code := impl.KeepDo(w.Keeps[c.who], e.Op); code != c.code {
			t.Errorf("%s ends with %d", eventText(e), code)
		}
	}
	for _, o := range allNotOk() {
		for who := range impl.LogWho {
			wantIdle(t, w, event{Kind: impl.EventDoes, A: who, Op: o})
		}
	}
}

// B is not asked for, nor is Op where nothing is done.
func TestWorldDoesOfEachClientAndOfNone(t *testing.T) {
	for _, who := range oddPlaces {
		for _, b := range []int{-1, 0, 7} {
			e := does(t, who, "dir 12 0 n")
			e.B = b
			if who < 0 || who >= impl.LogWho {
				wantIdle(t, plainWorld(t), e)
				continue
			}
			wantJust(t, plainWorld(t), e, func(w *world) { w.Keeps[who].List = append(w.Keeps[who].List, e.Op) })
		}
	}
	full := changedWorld(plainWorld(t), func(w *world) { w.Keeps[1].List = textsOf(0); w.Keeps[2].List = textsOf(impl.ActMost) })
	wantIdle(t, full, does(t, 2, "dir 12 0 n"))
}

func TestWorldSends(t *testing.T) {
	w := plainWorld(t)
	waits := impl.LogMake(w.Keeps[1].Base, 1, 3, w.Keeps[1].Sent)
	wantJust(t, w, sends(1), func(w *world) { w.Net = append(w.Net, logMsg(waits)) })

	// Of the list of 2 the text, which is void, does not go.
	for who, list := range map[int][]op{0: w.Keeps[0].List, 2: w.Keeps[2].List[1:]} {
		wantJust(t, w, sends(who), func(w *world) {
			k := &w.Keeps[who]
			k.Seq, k.Waits, k.Sent, k.List = k.Seq+1, true, list, nil
			w.Net = append(w.Net, logMsg(impl.LogMake(k.Base, who, k.Seq, list)))
		})
	}
	bare := changedWorld(w, func(w *world) { w.Keeps[2].List = nil })
	wantJust(t, bare, sends(2), func(w *world) {
		w.Keeps[2].Seq = 9
		w.Net = append(w.Net, fetchMsg(2, 9))
	})
	again := opsOf(t, "dir 12 0 n", "gone 12 0 n")
	void := changedWorld(w, func(w *world) { w.Keeps[2].List = again })
	wantJust(t, void, sends(2), func(w *world) {
		w.Keeps[2].Seq, w.Keeps[2].List = 9, nil
		w.Net = append(w.Net, fetchMsg(2, 9))
	})
	for who := range impl.LogWho {
		wantJust(t, impl.WorldOpen(), sends(who), func(w *world) {
			w.Keeps[who].Seq, w.Net = 1, []msg{fetchMsg(who, 1)}
		})
	}
}

// The last Seq: what waits goes once more, and nothing else does.
func TestWorldSendsOfNone(t *testing.T) {
	w := changedWorld(plainWorld(t), func(w *world) {
		for who := range w.Keeps {
			w.Keeps[who].Seq = impl.LogSeq
		}
	})
	wantIdle(t, w, sends(0))
	wantIdle(t, w, sends(2))
	if got := wantHappens(t, w, sends(1)); len(got.Net) != 5 || got.Net[4].Seq != impl.LogSeq {
		t.Errorf("%v", got.Net)
	}
	for _, who := range oddPlaces {
		if who < 0 || who >= impl.LogWho {
			wantIdle(t, plainWorld(t), sends(who))
		}
	}
}

// With WorldNet messages on their way the client has sent, and what it sent is lost.
func TestWorldSendsWithAFullNet(t *testing.T) {
	for many := impl.WorldNet - 2; many <= impl.WorldNet; many++ {
		w := withNet(plainWorld(t), many)
		left := min(many+1, 24)
		for who := range impl.LogWho {
			got := wantHappens(t, w, sends(who))
			if len(got.Net) != left || got.Keeps[who].Seq != w.Keeps[who].Seq+1-who%2 || !got.Keeps[who].Waits {
				t.Errorf("%d of %d: %d are on their way, %v", who, many, len(got.Net), got.Keeps[who])
			}
			if parts := partsApart(changedWorld(got, func(w *world) { w.Net = w.Net[:many] }), w); len(parts) > 1 {
				t.Errorf("%d of %d: %v", who, many, parts)
			}
		}
	}
	full := withNet(plainWorld(t), impl.WorldNet)
	wantIdle(t, full, sends(1))
	wantJust(t, full, sends(0), func(w *world) {
		k := &w.Keeps[0]
		k.Seq, k.Waits, k.Sent, k.List = 5, true, k.List, nil
	})
}

// off is a world from which a message is off its way.
func off(w *world, at int) { w.Net = slices.Delete(w.Net, at, at+1) }

func TestWorldTakesAFetch(t *testing.T) {
	for at := range 4 {
		w := changedWorld(plainWorld(t), func(w *world) { w.Net[0], w.Net[at] = w.Net[at], w.Net[0] })
		wantJust(t, w, takes(at), func(w *world) {
			off(w, at)
			w.Net = append(w.Net, treeMsg(0, 4, turnedTree()))
		})
	}
	// Past and Told that are full do not matter to it.
	full := changedWorld(fullWorld(t), func(w *world) { w.Net = w.Net[:4] })
	wantJust(t, full, takes(0), func(w *world) {
		off(w, 0)
		w.Net = append(w.Net, treeMsg(0, 4, turnedTree()))
	})
}

func TestWorldTakesATree(t *testing.T) {
	w := plainWorld(t)
	far := w.Net[1].Tree
	wantJust(t, w, takes(1), func(w *world) {
		off(w, 1)
		w.Keeps[2].Base = far
	})
	for _, m := range []msg{
		treeMsg(2, 8, behind(t, turnedTree(), "text 2 =no")), // its list can not stand on it
		treeMsg(2, 7, far),
		treeMsg(2, 9, far),
		treeMsg(1, 3, far), // it waits
	} {
		wantJust(t, changedWorld(w, func(w *world) { w.Net[1] = m }), takes(1), func(w *world) { off(w, 1) })
	}
	wantJust(t, changedWorld(w, func(w *world) { w.Net[1] = treeMsg(0, 4, impl.TreeOpen()) }), takes(1), func(w *world) { off(w, 1) })
}

func TestWorldTakesALogThatComesIn(t *testing.T) {
	w := plainWorld(t)
	after := behind(t, turnedTree(), "text 2 =x; file 8 9 c; move 1 5 b 31 b; gone 2 9 b")
	got := wantJust(t, w, takes(2), func(w *world) {
		off(w, 2)
		w.Shop = impl.Shop{Tree: after, Dones: withLast(w.Shop, lastLog(1, 3, impl.ShopDone))}
		w.Past = append(w.Past, plainLog(t))
		w.Net = append(w.Net, verdictMsg(1, 3, impl.ShopDone, after))
	})
	if len(got.Past) != 3 || len(got.Told) != 2 || impl.TreePath(got.Shop.Tree, 8) != "/a/c" || !got.Keeps[1].Waits {
		t.Errorf("%v", got)
	}
	// A log of nothing comes in as well.
	void := impl.LogMake(turnedTree(), 1, 3, nil)
	wantJust(t, changedWorld(w, func(w *world) { w.Net[2] = logMsg(void) }), takes(2), func(w *world) {
		off(w, 2)
		w.Shop.Dones = withLast(w.Shop, lastLog(1, 3, impl.ShopDone))
		w.Past = append(w.Past, void)
		w.Net = append(w.Net, verdictMsg(1, 3, impl.ShopDone, turnedTree()))
	})
}

func TestWorldTakesALogThatDoesNotComeIn(t *testing.T) {
	w := plainWorld(t)
	turned := changedWorld(w, func(w *world) { w.Shop.Tree = behind(t, w.Shop.Tree, "text 2 =no") })
	wantJust(t, turned, takes(2), func(w *world) {
		off(w, 2)
		w.Shop.Dones = withLast(w.Shop, lastLog(1, 3, impl.ShopClash))
		w.Net = append(w.Net, verdictMsg(1, 3, impl.ShopClash, w.Shop.Tree))
	})
	for _, c := range []struct{ seq, last, code int }{
		{3, impl.ShopDone, impl.ShopDone},
		{3, impl.ShopClash, impl.ShopClash},
		{4, impl.ShopDone, impl.ShopOld},
		{1000, impl.ShopClash, impl.ShopOld},
	} {
		again := changedWorld(w, func(w *world) { w.Shop.Dones = withLast(w.Shop, lastLog(1, c.seq, c.last)) })
		wantJust(t, again, takes(2), func(w *world) {
			off(w, 2)
			w.Net = append(w.Net, verdictMsg(1, 3, c.code, w.Shop.Tree))
		})
	}
}

// A log that comes again, also behind its verdict, comes in once.
func TestWorldTakesALogTwice(t *testing.T) {
	w := changedWorld(plainWorld(t), func(w *world) { w.Net = w.Net[2:3] })
	for _, e := range []event{twice(0), takes(0), sends(1), takes(1)} {
		w = wantHappens(t, w, e)
	}
	if w.Keeps[1].Waits || len(w.Past) != 3 || len(w.Told) != 3 || w.Told[2] != (impl.Told{Who: 1, Seq: 3}) {
		t.Fatalf("%v", w)
	}
	for range 2 {
		w = wantJust(t, w, takes(0), func(w *world) {
			off(w, 0)
			w.Net = append(w.Net, verdictMsg(1, 3, impl.ShopDone, w.Shop.Tree))
		})
	}
	for range 2 {
		w = wantJust(t, w, takes(0), func(w *world) { off(w, 0) })
	}
	wantIdle(t, w, takes(0))
}

// With WorldPast logs in Past a log is lost, whatever would come of it; the server and Past are as they are.
func TestWorldTakesALogWithFullPast(t *testing.T) {
	servers := map[string]func(w *world){
		"that would come in": func(w *world) {},
		"that would clash":   func(w *world) { w.Shop.Tree.Objs[2].Ver++ },
		"that comes again":   func(w *world) { w.Shop.Dones = withLast(w.Shop, lastLog(1, 3, impl.ShopDone)) },
		"that is old":        func(w *world) { w.Shop.Dones = withLast(w.Shop, lastLog(1, 9, impl.ShopDone)) },
	}
	for why, change := range servers {
		w := changedWorld(withPast(t, plainWorld(t), impl.WorldPast-1), change)
		if got := wantHappens(t, w, takes(2)); len(got.Net) != 4 || got.Net[3].Kind != impl.MsgVerdict {
			t.Errorf("%s, with one fewer in Past: %v", why, got.Net)
		}
		full := withPast(t, w, impl.WorldPast)
		wantJust(t, full, takes(2), func(w *world) { off(w, 2) })
		wantJust(t, withNet(full, impl.WorldNet), takes(2), func(w *world) { off(w, 2) })
	}
	last := wantHappens(t, withPast(t, plainWorld(t), impl.WorldPast-1), takes(2))
	if len(last.Past) != 60 || !equalLogs(last.Past[59], plainLog(t)) {
		t.Errorf("%d in Past", len(last.Past))
	}
}

// ended is the client of plainWorld that waits, behind a verdict with another code than ShopDone.
func ended(k keep) keep {
	k = copyKeep(k)
	k.Shelf = append(k.Shelf, slices.Concat(k.Sent, k.List))
	k.Base, k.Waits, k.Sent, k.List = turnedTree(), false, nil, nil
	return k
}

func TestWorldTakesAVerdict(t *testing.T) {
	for _, code := range []int{impl.ShopClash, impl.ShopOld} {
		w := changedWorld(plainWorld(t), func(w *world) { w.Net[3].Code = code })
		got := wantJust(t, w, takes(3), func(w *world) {
			off(w, 3)
			w.Keeps[1] = ended(w.Keeps[1])
			w.Told = append(w.Told, impl.Told{Who: 1, Seq: 3, Code: code})
		})
		// It comes a second time, behind what was done since.
		got = wantHappens(t, got, does(t, 1, "dir 12 0 n"))
		second := changedWorld(got, func(w *world) { w.Net[0] = verdictMsg(1, 3, code, turnedTree()) })
		wantJust(t, second, takes(0), func(w *world) { off(w, 0) })
	}
	w := plainWorld(t)
	came := cameIn(t, w.Keeps[1], "dir 20 0 far")
	w.Net[3] = verdictMsg(1, 3, impl.ShopDone, came)
	got := wantJust(t, w, takes(3), func(w *world) {
		off(w, 3)
		w.Keeps[1].Base, w.Keeps[1].Waits, w.Keeps[1].Sent = came, false, nil
		w.Told = append(w.Told, impl.Told{Who: 1, Seq: 3, Code: impl.ShopDone})
	})
	if !slices.Equal(got.Keeps[1].List, w.Keeps[1].List) {
		t.Errorf("%v", got.Keeps[1])
	}
}

func TestWorldTakesAVerdictWithFullTold(t *testing.T) {
	full := withTold(plainWorld(t), impl.WorldPast)
	got := wantJust(t, full, takes(3), func(w *world) {
		off(w, 3)
		w.Keeps[1] = ended(w.Keeps[1])
	})
	if len(got.Told) != 60 || got.Keeps[1].Waits {
		t.Errorf("%d told, %v", len(got.Told), got.Keeps[1])
	}
	left := withTold(plainWorld(t), impl.WorldPast-1)
	got = wantHappens(t, left, takes(3))
	if len(got.Told) != 60 || got.Told[59] != (impl.Told{Who: 1, Seq: 3, Code: impl.ShopClash}) {
		t.Errorf("%d told, the last one %v", len(got.Told), got.Told[59])
	}
}

// Nothing is told of a log that has not come to its end; the verdict is off its way all the same.
func TestWorldTakesAVerdictThatEndsNothing(t *testing.T) {
	shelves := changedWorld(plainWorld(t), func(w *world) { w.Keeps[1] = withShelf(w.Keeps[1], impl.KeepShelf) })
	wantJust(t, shelves, takes(3), func(w *world) { off(w, 3) })
	for _, m := range []msg{
		verdictMsg(1, 2, impl.ShopDone, turnedTree()),
		verdictMsg(1, 4, impl.ShopClash, turnedTree()),
		verdictMsg(0, 4, impl.ShopDone, turnedTree()),
		verdictMsg(2, 8, impl.ShopOld, turnedTree()),
	} {
		wantJust(t, changedWorld(plainWorld(t), func(w *world) { w.Net[3] = m }), takes(3), func(w *world) { off(w, 3) })
	}
}

// A message that is taken makes room for what is sent back.
func TestWorldTakesWithAFullNet(t *testing.T) {
	w := withNet(plainWorld(t), impl.WorldNet)
	for at := range impl.WorldNet {
		got := wantHappens(t, w, takes(at))
		want := impl.WorldNet
		if at == 1 || at == 3 {
			want--
		}
		if len(got.Net) != want {
			t.Errorf("%d is taken: %d are on their way", at, len(got.Net))
		}
		for i, m := range slices.Delete(copyWorld(w).Net, at, at+1) {
			if !equalMsgs(got.Net[i], m) {
				t.Errorf("%d is taken: message %d is another one", at, i)
			}
		}
	}
	if last := wantHappens(t, w, takes(2)).Net[23]; last.Kind != impl.MsgVerdict || last.Who != 1 {
		t.Errorf("%v", last)
	}
	for _, many := range []int{impl.WorldNet, impl.WorldNet - 1, 5} {
		if last := wantHappens(t, withNet(plainWorld(t), many), takes(0)).Net[many-1]; last.Kind != impl.MsgTree || last.Seq != 4 {
			t.Errorf("%v", last)
		}
	}
}

func TestWorldLosesAndTwice(t *testing.T) {
	for _, w := range []world{plainWorld(t), withNet(plainWorld(t), impl.WorldNet-1), withNet(plainWorld(t), impl.WorldNet), fullWorld(t)} {
		for at := range w.Net {
			wantJust(t, w, loses(at), func(w *world) { off(w, at) })
			if len(w.Net) == impl.WorldNet {
				wantIdle(t, w, twice(at))
				continue
			}
			wantJust(t, w, twice(at), func(w *world) { w.Net = append(w.Net, copyMsg(w.Net[at])) })
		}
		for _, at := range []int{math.MinInt, -2, -1, len(w.Net), len(w.Net) + 1, math.MaxInt} {
			wantIdle(t, w, loses(at))
			wantIdle(t, w, twice(at))
			wantIdle(t, w, takes(at))
		}
	}
	for _, at := range []int{-1, 0, 1} {
		wantIdle(t, impl.WorldOpen(), loses(at))
		wantIdle(t, impl.WorldOpen(), twice(at))
		wantIdle(t, impl.WorldOpen(), takes(at))
	}
}

func TestWorldClears(t *testing.T) {
	shelved := changedWorld(plainWorld(t), func(w *world) { w.Keeps[2] = withShelf(w.Keeps[2], impl.KeepShelf) })
	for _, w := range []world{plainWorld(t), shelved, fullWorld(t), impl.WorldOpen()} {
		for _, who := range oddPlaces {
			for _, place := range oddPlaces {
				e := clears(who, place)
				if who < 0 || who >= impl.LogWho || place < 0 || place >= len(w.Keeps[who].Shelf) {
					wantIdle(t, w, e)
					continue
				}
				wantJust(t, w, e, func(w *world) { w.Keeps[who].Shelf = slices.Delete(w.Keeps[who].Shelf, place, place+1) })
			}
		}
	}
}

func TestWorldOfOtherKinds(t *testing.T) {
	for _, w := range []world{plainWorld(t), fullWorld(t), impl.WorldOpen()} {
		for _, kind := range []int{math.MinInt, -1, 0, 7, 8, 256 + impl.EventLoses, math.MaxInt} {
			for _, a := range []int{-1, 0, 1, 3} {
				wantIdle(t, w, event{Kind: kind, A: a})
				wantIdle(t, w, event{Kind: kind, A: a, B: a, Op: opsOf(t, "dir 12 0 n")[0]})
			}
		}
	}
}

// Parts of an event that its kind has not do not matter.
func TestWorldOfNeedlessParts(t *testing.T) {
	w := plainWorld(t)
	for _, e := range []event{sends(2), takes(2), takes(3), loses(1), twice(1)} {
		want := wantHappens(t, w, e)
		for _, b := range oddPlaces {
			for _, o := range []op{{}, {Kind: 99, Id: -1, Name: "\xff"}, opsOf(t, "text 2 =x")[0]} {
				e.B, e.Op = b, o
				wantWorld(t, eventText(e), wantHappens(t, w, e), want)
			}
		}
	}
	clear := clears(1, 0)
	clear.Op = op{Kind: 99}
	wantWorld(t, "clears", wantHappens(t, w, clear), wantHappens(t, w, clears(1, 0)))
}

// What was handed in is as it was, and each answer is the same one.
func TestWorldDoOnceMore(t *testing.T) {
	for _, w := range []world{plainWorld(t), fullWorld(t), impl.WorldOpen()} {
		for i, e := range anyEvents(t) {
			wantWorld(t, fmt.Sprint("event ", i), wantHappens(t, w, e), wantHappens(t, w, e))
		}
	}
}
