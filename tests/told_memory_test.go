package tests

import (
	"fmt"
	"reflect"
	"slices"
	"testing"

	"loop.example/shieling/impl"
)

// foldsToCall is lists of logs: of none, that all can come in, and of which one can not.
func foldsToCall(t *testing.T) map[string][]impl.Log {
	t.Helper()
	lists := map[string][]impl.Log{
		"of none":        nil,
		"plain":          plainPastLogs(t),
		"of nothing":     {{Who: 1, Seq: 1}, {Who: 1, Seq: 2}},
		"one twice":      append(plainPastLogs(t), plainPastLogs(t)[2]),
		"other Bases":    plainPastLogs(t),
		"what is not ok": plainPastLogs(t),
	}
	lists["other Bases"][3].Bases[0].Ver++
	lists["what is not ok"][2].List[0].Kind = 9
	return lists
}

func TestToldFoldIsNewMemory(t *testing.T) {
	for why, given := range foldsToCall(t) {
		for n := -1; n <= len(given)+1; n++ {
			wantNewFold(t, fmt.Sprint(why, ", ", n), given, n)
		}
	}
}

// wantNewFold also asks that logs with empty lists are the same ones as those with none.
func wantNewFold(t *testing.T, why string, given []impl.Log, n int) {
	t.Helper()
	list := roomy(given)
	was := allRoom(list)
	want, could := modelFold(given, n)
	first, did := impl.ToldFold(list, n)
	if did != could || !sameObjs(first, want) {
		t.Fatalf("%s: %v, %v", why, first, did)
	}
	rooms := roomsOf("answer", reflect.ValueOf(first))
	wantApart(t, why, append(rooms, roomsOf("logs", reflect.ValueOf(list))...))
	spoilAll(first)
	if !reflect.DeepEqual(allRoom(list), was) {
		t.Errorf("%s: the list that was handed in, or what is behind its end, is another one", why)
	}
	again, _ := impl.ToldFold(list, n)
	if !sameObjs(again, want) {
		t.Errorf("%s: once more, it is %v", why, again)
	}
	spoilAll(list)
	if !sameObjs(again, want) {
		t.Errorf("%s: the answer is another one behind a change of what was handed in", why)
	}
}

// sameObjs is told apart from TreeSame.
func sameObjs(a impl.Tree, b impl.Tree) bool { return slices.EqualFunc(a.Objs, b.Objs, sameObj) }

// What is asked of worlds leaves them, and what is behind their lists' ends; empty lists are as none.
func TestToldAsksOnly(t *testing.T) {
	worlds := worldsToCall(t)
	worlds["all told"] = toldWorld(t)
	for why, w := range toldNotOk(t) {
		if len(w.Past)+len(w.Told)+len(w.Net) < 1000 {
			worlds[why] = w
		}
	}
	for why, given := range worlds {
		w := roomy(given)
		was := allRoom(w)
		want := modelTold(given)
		for range 2 {
			if got := toldOf(w); got != want {
				t.Errorf("%s: %v, not %v", why, got, want)
			}
			has := impl.ToldHas(w.Past, 0, 2)
			if has != modelHas(given.Past, 0, 2) {
				t.Errorf("%s: ToldHas is %v", why, has)
			}
			spoilAll(foldOf(w))
			if !reflect.DeepEqual(allRoom(w), was) {
				t.Errorf("%s: the world, or what is behind its lists' ends, is another one", why)
			}
		}
	}
}

func foldOf(w world) impl.Tree {
	x, _ := impl.ToldFold(w.Past, len(w.Past))
	return x
}
