package tests

import (
	"fmt"
	"math"
	"slices"
	"testing"

	"loop.example/shieling/impl"
)

func TestWorldConstants(t *testing.T) {
	kinds := []int{impl.EventDoes, impl.EventSends, impl.EventTakes, impl.EventLoses, impl.EventTwice, impl.EventClears}
	if !slices.Equal(kinds, []int{1, 2, 3, 4, 5, 6}) {
		t.Error(kinds)
	}
	if bounds := []int{impl.WorldNet, impl.WorldPast, impl.WorldPlays}; !slices.Equal(bounds, []int{24, 60, 300}) {
		t.Error(bounds)
	}
}

func TestWorldOpen(t *testing.T) {
	for range 2 {
		w := impl.WorldOpen()
		if !impl.WorldOk(w) || !modelWorldOk(w) {
			t.Fatalf("not ok: %v", w)
		}
		if !impl.TreeSame(w.Shop.Tree, impl.TreeOpen()) || len(w.Shop.Dones) != 0 {
			t.Errorf("the server: %v", w.Shop)
		}
		if len(w.Keeps) != impl.LogWho || len(w.Net)+len(w.Past)+len(w.Told) != 0 {
			t.Errorf("%v", w)
		}
		for who, k := range w.Keeps {
			if !equalKeeps(k, keep{Who: who, Base: impl.TreeOpen()}) {
				t.Errorf("client %d: %v", who, k)
			}
		}
		spoilAll(w)
	}
}

func TestWorldOk(t *testing.T) {
	for why, w := range map[string]world{
		"a new one":           impl.WorldOpen(),
		"one with all parts":  plainWorld(t),
		"a full one":          fullWorld(t),
		"one with full lists": changedWorld(fullWorld(t), func(w *world) { w.Keeps[1] = withShelf(w.Keeps[1], impl.KeepShelf) }),
		"the last logs": changedWorld(plainWorld(t), func(w *world) {
			for who := range w.Keeps {
				w.Keeps[who].Seq = impl.LogSeq
			}
		}),
		// Parts that do not fit each other do not matter.
		"logs of which the server has none": changedWorld(plainWorld(t), func(w *world) { w.Shop.Dones = nil }),
		"more told than came in":            changedWorld(withTold(plainWorld(t), 60), func(w *world) { w.Past = nil }),
		"one log twice":                     changedWorld(plainWorld(t), func(w *world) { w.Past = append(w.Past, w.Past[0]) }),
		"what was told twice":               changedWorld(plainWorld(t), func(w *world) { w.Told = append(w.Told, w.Told[0]) }),
	} {
		wantWorldOkOrNot(t, why, w, true)
	}
	wantNoWorld(t, "nothing", world{})
}

func TestWorldOkOfServers(t *testing.T) {
	for why, s := range shopsNotOk() {
		wantNoWorld(t, why, changedWorld(plainWorld(t), func(w *world) { w.Shop = s }))
		wantNoWorld(t, why, changedWorld(impl.WorldOpen(), func(w *world) { w.Shop = s }))
	}
	wantNoWorld(t, "no server", changedWorld(plainWorld(t), func(w *world) { w.Shop = impl.Shop{} }))
}

func TestWorldOkOfClients(t *testing.T) {
	for why, change := range map[string]func(w *world){
		"no client":           func(w *world) { w.Keeps = nil },
		"an empty list":       func(w *world) { w.Keeps = w.Keeps[:0] },
		"the last one fewer":  func(w *world) { w.Keeps = w.Keeps[:impl.LogWho-1] },
		"the first one fewer": func(w *world) { w.Keeps = w.Keeps[1:] },
		"the last one twice":  func(w *world) { w.Keeps = append(w.Keeps, w.Keeps[2]) },
		"the first one twice": func(w *world) { w.Keeps = append(w.Keeps[:1], w.Keeps...) },
		"nobody more":         func(w *world) { w.Keeps = append(w.Keeps, keep{}) },
		"one more": func(w *world) {
			w.Keeps = append(w.Keeps, keep{Who: impl.LogWho, Base: impl.TreeOpen()})
		},
		"all twice":              func(w *world) { w.Keeps = append(w.Keeps, w.Keeps...) },
		"one instead of another": func(w *world) { w.Keeps[2] = w.Keeps[1] },
		"the order turned":       func(w *world) { slices.Reverse(w.Keeps) },
		"very many":              func(w *world) { w.Keeps = slices.Repeat(w.Keeps, 30000) },
	} {
		for _, w := range []world{plainWorld(t), impl.WorldOpen()} {
			wantNoWorld(t, why, changedWorld(w, change))
		}
	}
	for i := range impl.LogWho {
		for j := range i {
			w := changedWorld(plainWorld(t), func(w *world) { w.Keeps[i], w.Keeps[j] = w.Keeps[j], w.Keeps[i] })
			wantNoWorld(t, fmt.Sprint(i, " and ", j, " change places"), w)
		}
		wantNoClientAt(t, i)
	}
}

// wantNoClientAt puts clients that are not ok to a place.
func wantNoClientAt(t *testing.T, i int) {
	t.Helper()
	for why, change := range map[string]func(k *keep){
		"nothing":           func(k *keep) { *k = keep{} },
		"nobody":            func(k *keep) { k.Who = -1 },
		"one too far":       func(k *keep) { k.Who = impl.LogWho },
		"another one":       func(k *keep) { k.Who = (i + 1) % impl.LogWho },
		"the last":          func(k *keep) { k.Who = (i + 2) % impl.LogWho },
		"a Seq below 0":     func(k *keep) { k.Seq = -1 },
		"a Seq too far":     func(k *keep) { k.Seq = impl.LogSeq + 1 },
		"no Base":           func(k *keep) { k.Base = impl.Tree{} },
		"a Base":            func(k *keep) { k.Base.Objs[0].Kind = impl.TreeNone },
		"it waits, or not":  func(k *keep) { k.Waits = !k.Waits },
		"what it sent":      func(k *keep) { k.Sent, k.Waits = []op{{}}, true },
		"what it did":       func(k *keep) { k.List = append(k.List, op{}) },
		"what can not be":   func(k *keep) { k.List = append(k.List, op{Kind: impl.OpText, Id: 30}) },
		"something shelved": func(k *keep) { k.Shelf = append(k.Shelf, []op{{}}) },
		"a full shelf":      func(k *keep) { k.Shelf = make([][]op, impl.KeepShelf+1) },
	} {
		w := changedWorld(plainWorld(t), func(w *world) { change(&w.Keeps[i]) })
		wantNoWorld(t, fmt.Sprint("client ", i, ", ", why), w)
	}
}

func TestWorldOkOfMessages(t *testing.T) {
	for many := range impl.WorldNet + 4 {
		for _, w := range []world{plainWorld(t), impl.WorldOpen()} {
			w = withNet(w, impl.WorldNet+4)
			w.Net = w.Net[:many]
			wantWorldOkOrNot(t, fmt.Sprint(many, " messages"), w, many <= 24)
		}
	}
	wantNoWorld(t, "very many", changedWorld(plainWorld(t), func(w *world) { w.Net = slices.Repeat(w.Net, 30000) }))
	for why, m := range msgsNotOk(t) {
		at := len(why) % 5
		wantNoWorld(t, why, changedWorld(plainWorld(t), func(w *world) { w.Net = slices.Insert(w.Net, at, m) }))
	}
	for at := range impl.WorldNet {
		w := changedWorld(withNet(plainWorld(t), impl.WorldNet), func(w *world) { w.Net[at] = msg{} })
		wantNoWorld(t, fmt.Sprint("message ", at, " is none"), w)
	}
}

func TestWorldOkOfPast(t *testing.T) {
	for many := range impl.WorldPast + 4 {
		w := withPast(t, plainWorld(t), impl.WorldPast+4)
		w.Past = w.Past[:many]
		wantWorldOkOrNot(t, fmt.Sprint(many, " logs"), w, many <= 60)
	}
	wantNoWorld(t, "very many", changedWorld(plainWorld(t), func(w *world) { w.Past = slices.Repeat(w.Past, 30000) }))
	for why, l := range logsNotOk(t) {
		for at := range 3 {
			w := changedWorld(plainWorld(t), func(w *world) { w.Past = slices.Insert(w.Past, at, l) })
			wantNoWorld(t, fmt.Sprint(why, " at ", at), w)
		}
	}
	for at := range impl.WorldPast {
		w := changedWorld(withPast(t, plainWorld(t), impl.WorldPast), func(w *world) { w.Past[at].Bases = nil })
		wantNoWorld(t, fmt.Sprint("log ", at, " is none"), w)
	}
}

func TestWorldOkOfTold(t *testing.T) {
	for many := range impl.WorldPast + 4 {
		w := withTold(plainWorld(t), impl.WorldPast+4)
		w.Told = w.Told[:many]
		wantWorldOkOrNot(t, fmt.Sprint(many, " told"), w, many <= 60)
	}
	wantNoWorld(t, "very many", changedWorld(plainWorld(t), func(w *world) { w.Told = slices.Repeat(w.Told, 30000) }))
	for _, who := range []int{math.MinInt, -1, 0, 1, impl.LogWho - 1, impl.LogWho, math.MaxInt} {
		for _, seq := range []int{math.MinInt, -1, 0, 1, impl.LogSeq, impl.LogSeq + 1, math.MaxInt} {
			for _, code := range []int{math.MinInt, -1, 0, 1, 2, impl.ShopForm, math.MaxInt} {
				wantToldOkOrNot(t, impl.Told{Who: who, Seq: seq, Code: code})
			}
		}
	}
}

func wantToldOkOrNot(t *testing.T, x impl.Told) {
	t.Helper()
	for _, w := range []world{plainWorld(t), impl.WorldOpen()} {
		for _, at := range []int{0, len(w.Told)} {
			w := changedWorld(w, func(w *world) { w.Told = slices.Insert(w.Told, at, x) })
			wantWorldOkOrNot(t, fmt.Sprint(x, " at ", at), w, modelToldOk(x))
		}
	}
}

// worldsApart differ in one part each, from plainWorld and from each other.
func worldsApart(t *testing.T) map[string]func(w *world) {
	t.Helper()
	changes := map[string]func(w *world){
		"the server's tree":       func(w *world) { w.Shop.Tree.Objs[2].Text = "two" },
		"a Ver of the server":     func(w *world) { w.Shop.Tree.Objs[7].Ver++ },
		"a Done's Code":           func(w *world) { w.Shop.Dones[0].Code = impl.ShopClash },
		"a Done fewer":            func(w *world) { w.Shop.Dones = w.Shop.Dones[:1] },
		"no client":               func(w *world) { w.Keeps = nil },
		"a client fewer":          func(w *world) { w.Keeps = w.Keeps[:2] },
		"a client more":           func(w *world) { w.Keeps = append(w.Keeps, keep{}) },
		"clients' order":          func(w *world) { w.Keeps[0], w.Keeps[2] = w.Keeps[2], w.Keeps[0] },
		"no message":              func(w *world) { w.Net = nil },
		"a message fewer":         func(w *world) { w.Net = w.Net[:3] },
		"a message more":          func(w *world) { w.Net = append(w.Net, msg{}) },
		"messages' order":         func(w *world) { slices.Reverse(w.Net) },
		"a message's kind":        func(w *world) { w.Net[0].Kind = impl.MsgTree },
		"a message's Who":         func(w *world) { w.Net[0].Who = 1 },
		"a message's Seq":         func(w *world) { w.Net[0].Seq++ },
		"a message's Ver":         func(w *world) { w.Net[1].Tree.Objs[7].Ver++ },
		"a message's tree":        func(w *world) { w.Net[1].Tree = impl.Tree{} },
		"a message's log's Who":   func(w *world) { w.Net[2].Log.Who = 2 },
		"a message's log's Bases": func(w *world) { w.Net[2].Log.Bases[1].Ver++ },
		"a message's log's list":  func(w *world) { w.Net[2].Log.List[0].Text = "y" },
		"a message's code":        func(w *world) { w.Net[3].Code = impl.ShopOld },
		"no log":                  func(w *world) { w.Past = nil },
		"a log fewer":             func(w *world) { w.Past = w.Past[1:] },
		"a log more":              func(w *world) { w.Past = append(w.Past, impl.Log{}) },
		"logs' order":             func(w *world) { slices.Reverse(w.Past) },
		"a log's Who":             func(w *world) { w.Past[1].Who = 1 },
		"a log's Seq":             func(w *world) { w.Past[1].Seq++ },
		"a log's Bases":           func(w *world) { w.Past[1].Bases[0].Ver++ },
		"a log's Bases' Id":       func(w *world) { w.Past[1].Bases[0].Id++ },
		"a log's Base fewer":      func(w *world) { w.Past[1].Bases = w.Past[1].Bases[1:] },
		"a log's list":            func(w *world) { w.Past[0].List[1].Name = "z" },
		"a log's list, shorter":   func(w *world) { w.Past[0].List = w.Past[0].List[:1] },
		"nothing told":            func(w *world) { w.Told = nil },
		"one told fewer":          func(w *world) { w.Told = w.Told[:1] },
		"one told more":           func(w *world) { w.Told = append(w.Told, impl.Told{}) },
		"the order of what is":    func(w *world) { slices.Reverse(w.Told) },
		"who was told":            func(w *world) { w.Told[1].Who = 1 },
		"of which log":            func(w *world) { w.Told[1].Seq++ },
		"what of it":              func(w *world) { w.Told[1].Code = impl.ShopOld },
		"what of the first":       func(w *world) { w.Told[0].Code = impl.ShopOld },
		"all":                     func(w *world) { *w = world{} },
	}
	for who := range impl.LogWho {
		for why, change := range keepsApart(who) {
			changes[fmt.Sprint("client ", who, ": ", why)] = func(w *world) { change(&w.Keeps[who]) }
		}
	}
	return changes
}

// keepsApart leaves out what a client of plainWorld has not.
func keepsApart(who int) map[string]func(k *keep) {
	changes := map[string]func(k *keep){
		"Who":                 func(k *keep) { k.Who = 7 },
		"Seq":                 func(k *keep) { k.Seq++ },
		"a Ver":               func(k *keep) { k.Base.Objs[0].Ver++ },
		"a Base's name":       func(k *keep) { k.Base.Objs[0].Kids = []ent{{Name: "w", Id: 30}} },
		"no Base":             func(k *keep) { k.Base = impl.Tree{} },
		"it waits, or not":    func(k *keep) { k.Waits = !k.Waits },
		"something sent more": func(k *keep) { k.Sent = append(k.Sent, op{}) },
		"something done":      func(k *keep) { k.List[1].Name = "w" },
		"something done more": func(k *keep) { k.List = append(k.List, op{}) },
		"done in order":       func(k *keep) { slices.Reverse(k.List) },
		"nothing done":        func(k *keep) { k.List = nil },
		"something shelved":   func(k *keep) { k.Shelf[0][0].Text = "w" },
		"a shelved list":      func(k *keep) { k.Shelf[0] = nil },
		"one shelved more":    func(k *keep) { k.Shelf[0] = append(k.Shelf[0], op{}) },
		"a shelved list more": func(k *keep) { k.Shelf = append(k.Shelf, nil) },
		"an empty shelf":      func(k *keep) { k.Shelf = nil },
	}
	if who == 1 {
		changes["something sent"] = func(k *keep) { k.Sent[0].Text = "w" }
		changes["nothing sent"] = func(k *keep) { k.Sent = nil }
	}
	if who > 0 {
		changes["the shelf's order"] = func(k *keep) { slices.Reverse(k.Shelf) }
	}
	return changes
}

func TestWorldSame(t *testing.T) {
	worlds := map[string]world{"plain": plainWorld(t), "new": impl.WorldOpen(), "full": fullWorld(t)}
	for why, change := range worldsApart(t) {
		worlds[why] = changedWorld(plainWorld(t), change)
	}
	for whyA, a := range worlds {
		for whyB, b := range worlds {
			wasA, wasB := copyWorld(a), copyWorld(b)
			if got := impl.WorldSame(a, copyWorld(b)); got != (whyA == whyB) {
				t.Errorf("%s and %s: %v", whyA, whyB, got)
			}
			if !equalWorlds(a, wasA) || !equalWorlds(b, wasB) {
				t.Errorf("%s and %s: WorldSame leaves another world", whyA, whyB)
			}
		}
	}
}

func TestWorldSameOfEmptyLists(t *testing.T) {
	nothing := world{Shop: impl.Shop{Tree: impl.Tree{Objs: []impl.Obj{}}, Dones: []done{}}, Keeps: []keep{}, Net: []msg{}, Past: []impl.Log{}, Told: []impl.Told{}}
	for _, w := range []world{plainWorld(t), impl.WorldOpen(), fullWorld(t), {}, {Keeps: make([]keep, 3), Net: make([]msg, 2), Past: make([]impl.Log, 2)}} {
		empty := roomy(w)
		if !impl.WorldSame(w, empty) || !impl.WorldSame(empty, w) || !impl.WorldSame(empty, roomy(w)) || !impl.WorldSame(w, w) {
			t.Errorf("with empty lists it is another one: %v", w)
		}
		if impl.WorldOk(empty) != modelWorldOk(w) {
			t.Errorf("with empty lists it is ok: %v", impl.WorldOk(empty))
		}
		if got := impl.WorldSame(w, nothing); got != isNoWorld(w) {
			t.Errorf("it is nothing: %v", got)
		}
	}
	shelf := func(list []op) world {
		return changedWorld(plainWorld(t), func(w *world) { w.Keeps[0].Shelf = append(w.Keeps[0].Shelf, list) })
	}
	if !impl.WorldSame(shelf(nil), shelf([]op{})) || impl.WorldSame(shelf(nil), plainWorld(t)) {
		t.Error("an empty list on the shelf")
	}
}
