package tests

import (
	"reflect"
	"testing"

	"loop.example/shieling/impl"
)

// What is asked of worlds leaves them, and what is behind their lists' ends, also where a vow is broken; empty lists are as none.
func TestVowsAskOnly(t *testing.T) {
	worlds := worldsToCall(t)
	worlds["all vows"] = vowWorld(t)
	worlds["clients alone"] = bareWorld(t)
	for why, w := range wrongVowWorlds(t) {
		worlds["not "+why] = w
	}
	for why, w := range toldNotOk(t) {
		if len(w.Past)+len(w.Told)+len(w.Net) < 1000 {
			worlds["not ok, "+why] = w
		}
	}
	for at, lines := range cutLists {
		worlds["a list that can not be done, "+lines] = changedWorld(vowWorld(t), func(w *world) {
			l := w.Past[at]
			w.Past[at] = impl.LogMake(impl.TreeOpen(), l.Who, l.Seq, opsOf(t, splitLines(lines)...))
		})
	}
	for why, given := range worlds {
		wantAskedOnly(t, why, given)
	}
}

// wantAskedOnly asks each vow twice, one behind the other, so that none finds what another one left.
func wantAskedOnly(t *testing.T, why string, given world) {
	t.Helper()
	w := roomy(given)
	was, want := allRoom(w), modelVows(given)
	for _, ask := range []func() bool{
		func() bool { return impl.VowBase(w) == want.base },
		func() bool { return impl.VowWay(w) == want.way },
		func() bool { return impl.VowTrees(w) == want.trees },
		func() bool { return impl.VowAll(w) == want.all },
	} {
		for range 2 {
			if !ask() {
				t.Errorf("%s: %v, not %v", why, vowsOf(w), want)
			}
			if !reflect.DeepEqual(allRoom(w), was) {
				t.Fatalf("%s: the world, or what is behind its lists' ends, is another one", why)
			}
		}
	}
}
