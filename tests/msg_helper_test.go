package tests

import (
	"fmt"
	"slices"
	"strings"
	"testing"

	"loop.example/shieling/impl"
)

type msg = impl.Msg

func fetchMsg(who int, seq int) msg { return msg{Kind: impl.MsgFetch, Who: who, Seq: seq} }

func treeMsg(who int, seq int, x impl.Tree) msg {
	return msg{Kind: impl.MsgTree, Who: who, Seq: seq, Tree: x}
}

func logMsg(l impl.Log) msg { return msg{Kind: impl.MsgLog, Who: l.Who, Seq: l.Seq, Log: l} }

func verdictMsg(who int, seq int, code int, x impl.Tree) msg {
	return msg{Kind: impl.MsgVerdict, Who: who, Seq: seq, Code: code, Tree: x}
}

// plainMsgs is an ok message of each kind, in their order, of the client and the number of plainLog.
func plainMsgs(t *testing.T) []msg {
	t.Helper()
	return []msg{
		fetchMsg(1, 3),
		treeMsg(1, 3, turnedTree()),
		logMsg(plainLog(t)),
		verdictMsg(1, 3, impl.ShopClash, turnedTree()),
	}
}

func changed(m msg, change func(m *msg)) msg {
	m = copyMsg(m)
	change(&m)
	return m
}

func copyMsg(m msg) msg {
	m.Log, m.Tree = copyLog(m.Log), copyTree(m.Tree)
	return m
}

// equalMsgs is told apart from MsgSame, which is asked itself.
func equalMsgs(a msg, b msg) bool {
	return a.Kind == b.Kind && a.Who == b.Who && a.Seq == b.Seq && a.Code == b.Code &&
		equalLogs(a.Log, b.Log) && slices.EqualFunc(a.Tree.Objs, b.Tree.Objs, sameObj)
}

// modelMsgOk is what chapter 7 says, kind by kind.
func modelMsgOk(m msg) bool {
	if !(owner{m.Who, m.Seq}).isOne() {
		return false
	}
	bare := isNoLog(m.Log) && m.Code == 0 && len(m.Tree.Objs) == 0
	switch m.Kind {
	case 1:
		return bare
	case 2:
		return isNoLog(m.Log) && m.Code == 0 && impl.TreeOk(m.Tree)
	case 3:
		return m.Log.Who == m.Who && m.Log.Seq == m.Seq && impl.LogOk(m.Log) && m.Code == 0 && len(m.Tree.Objs) == 0
	case 4:
		return isNoLog(m.Log) && m.Code >= 0 && m.Code <= 2 && impl.TreeOk(m.Tree)
	}
	return false
}

// modelText takes an ok message.
func modelText(m msg) string {
	kind := strings.Fields("fetch tree log verdict")[m.Kind-1]
	text := fmt.Sprintf("%s %d %d", kind, m.Who, m.Seq)
	for _, b := range m.Log.Bases {
		text += fmt.Sprintf(" %d/%d", b.Id, b.Ver)
	}
	for _, line := range linesOf(m.Log.List) {
		text += ", " + line
	}
	if m.Kind == impl.MsgVerdict {
		text += " " + strings.Fields("done clash old")[m.Code]
	}
	return text
}

// wantMsg asks whether a message is ok, and what its text is then; it must be as it was behind that.
func wantMsg(t *testing.T, why string, m msg, ok bool) {
	t.Helper()
	was := copyMsg(m)
	if got := impl.MsgOk(m); got != ok {
		t.Errorf("%s: MsgOk = %v", why, got)
	}
	want := ""
	if ok {
		want = modelText(m)
	}
	if got := impl.MsgText(m); got != want {
		t.Errorf("%s: MsgText = %q, not %q", why, got, want)
	}
	if !equalMsgs(m, was) {
		t.Errorf("%s: the message is another one", why)
	}
}

// msgsNotOk is messages with a fault each.
func msgsNotOk(t *testing.T) map[string]msg {
	t.Helper()
	msgs := map[string]msg{"nothing": {}}
	for _, m := range plainMsgs(t) {
		name := modelText(m)
		for _, o := range ownersNotOk {
			msgs[fmt.Sprint(name, " of ", o)] = changed(m, func(m *msg) {
				m.Who, m.Seq = o.who, o.seq
				if m.Kind == impl.MsgLog {
					m.Log.Who, m.Log.Seq = o.who, o.seq
				}
			})
		}
		for _, kind := range kindsNotOk {
			msgs[fmt.Sprint(name, " as ", kind)] = changed(m, func(m *msg) { m.Kind = kind })
		}
	}
	for why, x := range treesNotOk() {
		msgs["a tree, "+why] = treeMsg(1, 3, x)
		msgs["a verdict, "+why] = verdictMsg(1, 3, impl.ShopDone, x)
	}
	for why, l := range logsNotOk(t) {
		msgs["a log, "+why] = logMsg(l)
		msgs["a log of 1.3, "+why] = msg{Kind: impl.MsgLog, Who: 1, Seq: 3, Log: l}
	}
	for why, change := range strangeParts(t) {
		for _, m := range plainMsgs(t) {
			if strange := changed(m, change); !modelMsgOk(strange) {
				msgs[modelText(m)+" with "+why] = strange
			}
		}
	}
	return msgs
}

var kindsNotOk = []int{-1 << 63, -1, 0, 5, 6, 1<<63 - 1}

// strangeParts puts a part into a message, which is wrong where its kind has none, or has another one.
func strangeParts(t *testing.T) map[string]func(m *msg) {
	t.Helper()
	return map[string]func(m *msg){
		"a log":             func(m *msg) { m.Log = plainLog(t) },
		"another's log":     func(m *msg) { m.Log = plainLogWith(t, func(l *impl.Log) { l.Who = 2 }) },
		"another log":       func(m *msg) { m.Log = plainLogWith(t, func(l *impl.Log) { l.Seq = 4 }) },
		"an earlier log":    func(m *msg) { m.Log = plainLogWith(t, func(l *impl.Log) { l.Seq = 2 }) },
		"a log of none":     func(m *msg) { m.Log = impl.Log{Who: 1, Seq: 3} },
		"a log's Who":       func(m *msg) { m.Log = impl.Log{Who: 1} },
		"a log's Seq":       func(m *msg) { m.Log = impl.Log{Seq: 3} },
		"a log's Bases":     func(m *msg) { m.Log = impl.Log{Bases: []base{{}}} },
		"a log's List":      func(m *msg) { m.Log = impl.Log{List: []op{{}}} },
		"a clash":           func(m *msg) { m.Code = impl.ShopClash },
		"old":               func(m *msg) { m.Code = impl.ShopOld },
		"form":              func(m *msg) { m.Code = impl.ShopForm },
		"a code below 0":    func(m *msg) { m.Code = -1 },
		"a tree":            func(m *msg) { m.Tree = turnedTree() },
		"a new tree":        func(m *msg) { m.Tree = impl.TreeOpen() },
		"an object":         func(m *msg) { m.Tree = impl.Tree{Objs: make([]impl.Obj, 1)} },
		"no tree":           func(m *msg) { m.Tree = impl.Tree{} },
		"very many objects": func(m *msg) { m.Tree = impl.Tree{Objs: make([]impl.Obj, 100000)} },
		"very many Bases":   func(m *msg) { m.Log.Bases = make([]base, 100000) },
		"a very long List":  func(m *msg) { m.Log.List = make([]op, 100000) },
	}
}

// serveModel is what chapter 7 says of an ok server, with what comes of a log told by shopModel.
type serveModel struct {
	shop impl.Shop
	back []msg
	came bool
}

func modelServe(s impl.Shop, m msg) serveModel {
	if modelMsgOk(m) && m.Kind == impl.MsgFetch {
		return serveModel{s, []msg{treeMsg(m.Who, m.Seq, s.Tree)}, false}
	}
	if modelMsgOk(m) && m.Kind == impl.MsgLog {
		took := modelTake(s, m.Log)
		back := verdictMsg(m.Who, m.Seq, took.code, took.shop.Tree)
		return serveModel{took.shop, []msg{back}, took.now && took.code == impl.ShopDone}
	}
	return serveModel{s, nil, false}
}

// wantServed asks for all of promise 7 of an ok server and any message; it gives the server behind it.
func wantServed(t *testing.T, s impl.Shop, m msg) (impl.Shop, []msg, bool) {
	t.Helper()
	want := modelServe(s, m)
	wasShop, wasMsg := copyShop(s), copyMsg(m)
	got, back, came := impl.MsgServe(s, m)
	if came != want.came {
		t.Fatalf("%v: it came in is %v", m, came)
	}
	if !equalShops(got, want.shop) {
		t.Fatalf("%v leaves %v, not %v", m, got, want.shop)
	}
	if !slices.EqualFunc(back, want.back, equalMsgs) {
		t.Fatalf("%v is answered with %v, not %v", m, back, want.back)
	}
	if !equalShops(s, wasShop) || !equalMsgs(m, wasMsg) {
		t.Fatalf("%v: what was handed in is another one", wasMsg)
	}
	wantPromised(t, s, m, got, back, came)
	return got, back, came
}

// wantPromised asks by the words of promise 7, as far as these can be asked without the model.
func wantPromised(t *testing.T, s impl.Shop, m msg, got impl.Shop, back []msg, came bool) {
	t.Helper()
	asks := impl.MsgOk(m) && (m.Kind == impl.MsgFetch || m.Kind == impl.MsgLog)
	if !asks {
		if len(back) != 0 || came || !impl.ShopSame(got, s) {
			t.Fatalf("%v is answered with %v, %v, and leaves %v", m, back, came, got)
		}
		return
	}
	if len(back) != 1 || !impl.MsgOk(back[0]) {
		t.Fatalf("%v is answered with %v", m, back)
	}
	b := back[0]
	if b.Who != m.Who || b.Seq != m.Seq || !impl.TreeSame(b.Tree, got.Tree) {
		t.Fatalf("%v is answered with %v", m, b)
	}
	if m.Kind == impl.MsgFetch {
		if b.Kind != impl.MsgTree || came || !impl.ShopSame(got, s) {
			t.Fatalf("%v is answered with %v, %v, and leaves %v", m, b, came, got)
		}
		return
	}
	took, code, now := impl.ShopTake(s, m.Log)
	if b.Kind != impl.MsgVerdict || b.Code != code || !impl.ShopSame(got, took) {
		t.Fatalf("%v is answered with %v, not with %d", m, b, code)
	}
	if came != (now && code == impl.ShopDone) {
		t.Fatalf("%v: it came in is %v, but it ended with %d, now is %v", m, came, code, now)
	}
}

// wantServedAgain asks that a message that comes once more is answered as before, and that nothing comes of it.
func wantServedAgain(t *testing.T, s impl.Shop, m msg, first []msg) {
	t.Helper()
	got, back, came := wantServed(t, s, m)
	if came || !equalShops(got, s) || !slices.EqualFunc(back, first, equalMsgs) {
		t.Fatalf("%v once more: %v, %v, not %v", m, back, came, first)
	}
}

// wantVerdict is wantServed of a log of which it is known what is told.
func wantVerdict(t *testing.T, s impl.Shop, l impl.Log, code int, came bool) impl.Shop {
	t.Helper()
	got, back, c := wantServed(t, s, logMsg(l))
	if c != came || len(back) != 1 || back[0].Code != code {
		t.Errorf("%v is answered with %v, %v, not %d, %v", l, back, c, code, came)
	}
	return got
}

// msgDice draws messages to a server, and what the server sent, which comes to it as well.
type msgDice struct {
	shopDice
	sent []msg
}

func (d *msgDice) message(t *testing.T, s impl.Shop) msg {
	t.Helper()
	who, seq := d.below(impl.LogWho), 1+d.below(9)
	switch n := d.below(10); {
	case n < 2:
		return fetchMsg(who, seq)
	case n < 6:
		return logMsg(d.log(s))
	case n < 7 && len(d.sent) > 0:
		return d.sent[d.below(len(d.sent))]
	case n < 8:
		return treeMsg(who, seq, s.Tree)
	case n < 9:
		return verdictMsg(who, seq, d.below(3), s.Tree)
	}
	return d.wrong(logMsg(d.log(s)), s)
}

// wrong is a message of each kind that is not ok.
func (d *msgDice) wrong(l msg, s impl.Shop) msg {
	switch d.below(6) {
	case 0:
		l.Who = (l.Who + 1 + d.below(2)) % impl.LogWho
	case 1:
		l.Seq++
	case 2:
		l.Code = 1 + d.below(2)
	case 3:
		l.Tree = s.Tree
	case 4:
		l.Kind = d.below(7) - 1
		if l.Kind == impl.MsgLog {
			l.Kind = impl.MsgFetch
		}
	case 5:
		return fetchMsg(d.below(impl.LogWho), 0)
	}
	return l
}
