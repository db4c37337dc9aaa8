package tests

import (
	"fmt"
	"slices"
	"testing"

	"loop.example/shieling/impl"
)

// waitingAs is vowWorld's client that waits as another one; its log is of that Who and Seq then.
func waitingAs(t *testing.T, who int, seq int) keep {
	t.Helper()
	return changedKeep(vowWorld(t).Keeps[1], func(k *keep) { k.Who, k.Seq = who, seq })
}

// restingAs is vowWorld's client that has something yet to send as another one, that began with the tree that is behind no log, whatever came in.
func restingAs(t *testing.T, who int, seq int) keep {
	t.Helper()
	return changedKeep(vowWorld(t).Keeps[0], func(k *keep) { k.Who, k.Seq, k.Base = who, seq, impl.TreeOpen() })
}

// wayWorld is bareWorld with that client, and these on their way.
func wayWorld(t *testing.T, k keep, net ...msg) world {
	t.Helper()
	return changedWorld(bareWorld(t), func(w *world) { w.Keeps[k.Who], w.Net = k, net })
}

// anyLogs is logs of that Who and Seq: of much, of little, of what can not be done and of nothing.
func anyLogs(t *testing.T, who int, seq int) []msg {
	t.Helper()
	return []msg{
		logMsg(impl.LogMake(plainTrees(t)[5], who, seq, opsOf(t, "file 9 7 k", "text 5 =mine"))),
		logMsg(impl.LogMake(turnedTree(), who, seq, opsOf(t, "text 2 =x"))),
		logMsg(impl.LogMake(impl.TreeOpen(), who, seq, opsOf(t, "gone 30 29 z"))),
		logMsg(impl.Log{Who: who, Seq: seq}),
	}
}

func TestVowWayOfNoLog(t *testing.T) {
	x := plainTrees(t)[2]
	for who := range impl.LogWho {
		for _, k := range []keep{waitingAs(t, who, 4), restingAs(t, who, 4), impl.KeepOpen(who)} {
			wantWay(t, "no message", wayWorld(t, k), true)
			for _, seq := range []int{1, 3, 4, 5, impl.LogSeq} {
				net := []msg{fetchMsg(who, seq), treeMsg(who, seq, x), verdictMsg(who, seq, impl.ShopDone, x), verdictMsg(who, seq, impl.ShopClash, x)}
				wantWay(t, fmt.Sprint("no log, ", who, ".", seq), wayWorld(t, k, net...), true)
				for _, m := range net {
					wantWay(t, modelText(m), wayWorld(t, k, m), true)
				}
			}
		}
	}
}

// Below its client's Seq all was so; above it nothing was sent, be it told, past or not.
func TestVowWayBySeq(t *testing.T) {
	for who := range impl.LogWho {
		for _, last := range []int{2, 3, 500, impl.LogSeq} {
			for _, k := range []keep{waitingAs(t, who, last), restingAs(t, who, last)} {
				for _, seq := range []int{1, last - 1, last + 1, impl.LogSeq} {
					if seq == last || seq < 1 || seq > impl.LogSeq {
						continue
					}
					for _, m := range anyLogs(t, who, seq) {
						wantBySeq(t, wayWorld(t, k, m), m, seq < last)
					}
				}
			}
		}
		for _, m := range anyLogs(t, who, 1) {
			wantBySeq(t, wayWorld(t, impl.KeepOpen(who), m), m, false)
		}
	}
}

// wantBySeq asks it also with the log's Who and Seq in Past, in Told, and with WorldPast told.
func wantBySeq(t *testing.T, w world, m msg, way bool) {
	t.Helper()
	why := fmt.Sprintf("%s, its client is at %d", modelText(m), w.Keeps[m.Who].Seq)
	wantWay(t, why, w, way)
	in := changedWorld(w, func(w *world) { w.Past = append(w.Past, copyLog(m.Log)) })
	wantWay(t, why+", in Past", in, way)
	told := changedWorld(w, func(w *world) { w.Told = append(w.Told, toldAs(m.Who, m.Seq, impl.ShopClash)) })
	wantWay(t, why+", told", told, way)
	wantWay(t, why+", much is told", withTold(w, impl.WorldPast), way)
}

// notSent is logs of the same Who and Seq as the one that vowWorld's client 1 sent, and others in a part; all are ok.
var notSent = map[string]func(l *impl.Log){
	"the first Ver":      func(l *impl.Log) { l.Bases[0].Ver++ },
	"a Ver fewer":        func(l *impl.Log) { l.Bases[0].Ver-- },
	"the second Ver":     func(l *impl.Log) { l.Bases[1].Ver++ },
	"the last Ver":       func(l *impl.Log) { l.Bases[2].Ver++ },
	"the last Ver, much": func(l *impl.Log) { l.Bases[2].Ver = impl.TreeVer },
	"a Base":             func(l *impl.Log) { l.Bases[2].Id, l.List[0].Id = 10, 10 },
	"a Base fewer":       func(l *impl.Log) { l.Bases, l.List = l.Bases[1:], l.List[:1] },
	"a Base more":        func(l *impl.Log) { *l = withThing(*l, op{Kind: impl.OpText, Id: 30}) },
	"a thing more":       func(l *impl.Log) { l.List = append(l.List, l.List[1]) },
	"a Text":             func(l *impl.Log) { l.List[1].Text = "min" },
	"no Text":            func(l *impl.Log) { l.List[1].Text = "" },
	"a Name":             func(l *impl.Log) { l.List[0].Name = "kk" },
	"a Kind":             func(l *impl.Log) { l.List[0].Kind = impl.OpDir },
	"the order":          func(l *impl.Log) { slices.Reverse(l.List) },
	"nothing":            func(l *impl.Log) { l.Bases, l.List = nil, nil },
}

// withThing lets a log lean on what that names, too.
func withThing(l impl.Log, o op) impl.Log {
	return impl.Log{Who: l.Who, Seq: l.Seq, Bases: append(l.Bases, base{Id: o.Id}), List: append(l.List, o)}
}

func TestVowWayOfAClientThatWaits(t *testing.T) {
	for who := range impl.LogWho {
		for _, seq := range []int{1, 4, impl.LogSeq} {
			k := waitingAs(t, who, seq)
			wantSent(t, wayWorld(t, k, sentMsg(k)), true)
			wantWay(t, "it was sent twice", wayWorld(t, k, sentMsg(k), sentMsg(k)), true)
			for why, change := range notSent {
				m := sentMsg(k)
				change(&m.Log)
				if equalLogs(m.Log, sentMsg(k).Log) || !impl.MsgOk(m) {
					t.Fatalf("%s: %v", why, m)
				}
				wantSent(t, wayWorld(t, k, m), false)
				wantWay(t, why+", behind the right one", wayWorld(t, k, sentMsg(k), m), false)
				wantWay(t, why+", ahead of the right one", wayWorld(t, k, m, sentMsg(k)), false)
			}
		}
	}
}

// wantSent asks of the only message on its way, whose client waits: whether that log came in or is told does not matter.
func wantSent(t *testing.T, w world, way bool) {
	t.Helper()
	m := w.Net[0]
	wantWay(t, modelText(m), w, way)
	in := changedWorld(w, func(w *world) { w.Past = append(w.Past, copyLog(m.Log)) })
	wantWay(t, modelText(m)+", in Past", in, way)
	for code := range 3 {
		x := toldAs(m.Who, m.Seq, code)
		wantWay(t, fmt.Sprint(modelText(m), ", told ", code), changedWorld(w, func(w *world) { w.Told = append(w.Told, x) }), way)
	}
	wantWay(t, modelText(m)+", much is told", withTold(w, impl.WorldPast), way)
}

// A log that differs in Who or Seq from its message, or from what was sent, is of no ok message, or is another's.
func TestVowWayOfAnotherOwner(t *testing.T) {
	k := waitingAs(t, 1, 4)
	for _, o := range []owner{{0, 4}, {2, 4}, {1, 3}, {1, 5}, {-1, 4}, {3, 4}} {
		m := sentMsg(k)
		m.Log.Who, m.Log.Seq = o.who, o.seq
		wantVows(t, fmt.Sprint("a log of ", o), wayWorld(t, k, m), noVows)
		m.Who, m.Seq = o.who, o.seq
		if !o.isOne() {
			wantVows(t, fmt.Sprint("a message of ", o), wayWorld(t, k, m), noVows)
			continue
		}
		wantWay(t, fmt.Sprint("sent as ", o), wayWorld(t, k, m), o == owner{1, 3})
		both := wayWorld(t, k, m)
		both.Keeps[o.who].Seq = max(both.Keeps[o.who].Seq, o.seq+1)
		if o.who != 1 {
			wantWay(t, fmt.Sprint("sent as ", o, " which is behind"), both, true)
		}
	}
}

// The log is held against what its client has: with another Base, or with other things sent, it is another one.
func TestVowWayOfOtherClients(t *testing.T) {
	trees := plainTrees(t)
	k := waitingAs(t, 1, 4)
	for why, change := range map[string]func(k *keep){
		"another Base":    func(k *keep) { k.Base = copyTree(trees[4]) },
		"another Text":    func(k *keep) { k.Sent[1].Text = "yours" },
		"something more":  func(k *keep) { k.Sent = append(k.Sent, k.Sent[1]) },
		"something fewer": func(k *keep) { k.Sent, k.List = k.Sent[:1], nil },
		"another Seq":     func(k *keep) { k.Seq-- },
	} {
		wantWay(t, why, wayWorld(t, changedKeep(k, change), sentMsg(k)), false)
	}
	for why, change := range map[string]func(k *keep){
		"nothing since":       func(k *keep) { k.List = nil },
		"something else":      func(k *keep) { k.List = opsOf(t, "dir 20 0 far") },
		"an empty shelf":      func(k *keep) { k.Shelf = nil },
		"something on it":     func(k *keep) { *k = withShelf(*k, impl.KeepShelf) },
		"a later Seq":         func(k *keep) { k.Seq++ },
		"a Base of like Vers": func(k *keep) { k.Base = copyTree(trees[5]) },
	} {
		wantWay(t, why, wayWorld(t, changedKeep(k, change), sentMsg(k)), true)
	}
}

// At its client's Seq, and that does not wait: it is in Past, in Told, in both, or in neither, with WorldPast told or not.
func TestVowWayOfAClientThatDoesNotWait(t *testing.T) {
	for who := range impl.LogWho {
		for _, seq := range []int{7, 500, impl.LogSeq} {
			for _, m := range anyLogs(t, who, seq) {
				w := wayWorld(t, restingAs(t, who, seq), m)
				wantWay(t, "in neither", w, false)
				wantEnded(t, w, m)
				wantNearly(t, w, m)
			}
		}
	}
	// With no number of its own a client has sent nothing.
	for who := range impl.LogWho {
		w := wayWorld(t, impl.KeepOpen(who), anyLogs(t, who, 1)...)
		wantWay(t, "above 0", withTold(w, impl.WorldPast), false)
	}
}

// wantEnded asks of a log that is in neither, and then is in one, or both, at the first place, in the middle and last.
func wantEnded(t *testing.T, w world, m msg) {
	t.Helper()
	for _, at := range []int{0, 2, len(w.Past)} {
		for _, l := range []impl.Log{m.Log, pastLog(t, m.Who, m.Seq), {Who: m.Who, Seq: m.Seq}} {
			in := changedWorld(w, func(w *world) { w.Past = slices.Insert(w.Past, at, copyLog(l)) })
			wantWay(t, fmt.Sprint("in Past at ", at), in, true)
			x := toldAs(m.Who, m.Seq, impl.ShopDone)
			wantWay(t, fmt.Sprint("in both at ", at), changedWorld(in, func(w *world) { w.Told = slices.Insert(w.Told, at, x) }), true)
		}
		for code := range 3 {
			x := toldAs(m.Who, m.Seq, code)
			wantWay(t, fmt.Sprint("told ", code, " at ", at), changedWorld(w, func(w *world) { w.Told = slices.Insert(w.Told, at, x) }), true)
		}
	}
}

// wantNearly asks of a log that is in neither, but others like it are, as many as there can be; only WorldPast told are enough.
func wantNearly(t *testing.T, w world, m msg) {
	t.Helper()
	for _, o := range []owner{{(m.Who + 1) % 3, m.Seq}, {(m.Who + 2) % 3, m.Seq}, {m.Who, m.Seq - 1}, {m.Who, min(m.Seq+1, 1000)}} {
		if (o == owner{m.Who, m.Seq}) {
			continue
		}
		near := changedWorld(w, func(w *world) {
			w.Past = append(w.Past, pastLog(t, o.who, o.seq))
			w.Told = append(w.Told, toldAs(o.who, o.seq, impl.ShopDone), toldAs(o.who, o.seq, impl.ShopClash))
		})
		wantWay(t, fmt.Sprint("of ", o, " are"), near, false)
		x := toldAs(o.who, o.seq, impl.ShopClash)
		for _, many := range []int{impl.WorldPast - 1, impl.WorldPast} {
			full := changedWorld(w, func(w *world) { w.Told = slices.Repeat([]told{x}, many) })
			wantWay(t, fmt.Sprint(many, " are told"), full, many == impl.WorldPast)
		}
	}
	full := changedWorld(w, func(w *world) {
		w.Past = upTo(w.Past, impl.WorldPast, func(at int) impl.Log { return impl.Log{Who: m.Who, Seq: 1 + at%6} })
	})
	wantWay(t, "in neither, Past is full", full, false)
}

// A log that came in and is on its way once more: its client still waits for what is told of it, or was told, or sent another one since.
func TestVowWayOfALogThatCameIn(t *testing.T) {
	logs, trees := logsOf(t, plainSteps...)
	for n, l := range logs {
		m := logMsg(l)
		waits := keep{Who: l.Who, Seq: l.Seq, Base: trees[n], Waits: true, Sent: l.List}
		for why, k := range map[string]keep{
			"not told yet":     waits,
			"told":             {Who: l.Who, Seq: l.Seq, Base: trees[n+1]},
			"told, went on":    {Who: l.Who, Seq: l.Seq, Base: trees[n+1], List: opsOf(t, "dir 20 0 far")},
			"asks for a tree":  {Who: l.Who, Seq: l.Seq + 1, Base: trees[n+1]},
			"another one sent": {Who: l.Who, Seq: l.Seq + 1, Base: trees[n+1], Waits: true, Sent: opsOf(t, "dir 20 0 far")},
		} {
			w := wayWorld(t, k, m, copyMsg(m))
			wantWay(t, fmt.Sprint(n, ", ", why), w, true)
			wantWay(t, fmt.Sprint(n, ", ", why, ", none told"), changedWorld(w, func(w *world) { w.Told = nil }), true)
		}
		// It did come in, but of another Base than its client has.
		other := wayWorld(t, changedKeep(waits, func(k *keep) { k.Base.Objs[31].Ver++ }), m)
		wantOkVows(t, fmt.Sprint(n, ", of another Base"), other, vowAnswers{base: false, way: true, trees: true})
		other.Keeps[l.Who].Base = turnedOnce(trees[n], l.Bases[0].Id)
		wantOkVows(t, fmt.Sprint(n, ", of another Ver"), other, vowAnswers{base: false, way: false, trees: true})
	}
}

// One wrong log at any place of a full net is enough.
func TestVowWayOfManyMessages(t *testing.T) {
	x := plainTrees(t)[1]
	right, k := []msg{}, waitingAs(t, 1, 4)
	for at := range impl.WorldNet {
		right = append(right, []msg{sentMsg(k), fetchMsg(2, 9), treeMsg(0, 1, x), logMsg(pastLog(t, 1, 3))}[at%4])
	}
	wantWay(t, "a full net", wayWorld(t, k, right...), true)
	for at := range right {
		for why, wrong := range map[string]msg{
			"above":    logMsg(pastLog(t, 1, 5)),
			"another":  logMsg(pastLog(t, 1, 4)),
			"not past": logMsg(pastLog(t, 2, 1)),
		} {
			net := copiesOf(right, copyMsg)
			net[at] = wrong
			wantWay(t, fmt.Sprint(why, " at ", at), wayWorld(t, k, net...), false)
		}
	}
}
