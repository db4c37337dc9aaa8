package tests

import (
	"fmt"
	"reflect"
	"slices"
	"testing"

	"loop.example/shieling/impl"
)

// roomy is a copy of which no list is nil, and all have spare room behind their ends, with something in it.
func roomy[T any](x T) T { return roomyValue(reflect.ValueOf(x)).Interface().(T) }

func roomyValue(v reflect.Value) reflect.Value {
	switch v.Kind() {
	case reflect.Struct:
		out := reflect.New(v.Type()).Elem()
		for i := range v.NumField() {
			out.Field(i).Set(roomyValue(v.Field(i)))
		}
		return out
	case reflect.Slice:
		out := reflect.MakeSlice(v.Type(), v.Len()+2, v.Len()+2)
		for i := range v.Len() {
			out.Index(i).Set(roomyValue(v.Index(i)))
		}
		for i := range 2 {
			out.Index(v.Len() + i).Set(junk(v.Type().Elem(), 77+i))
		}
		return out.Slice(0, v.Len())
	}
	return v
}

// junk is something that is in no world.
func junk(kind reflect.Type, n int) reflect.Value {
	v := reflect.New(kind).Elem()
	switch kind.Kind() {
	case reflect.Struct:
		for i := range v.NumField() {
			v.Field(i).Set(junk(v.Field(i).Type(), n))
		}
	case reflect.Slice:
		v.Set(reflect.MakeSlice(kind, 1, 1))
	case reflect.Int:
		v.SetInt(int64(n))
	case reflect.String:
		v.SetString("junk")
	}
	return v
}

// allRoom is a copy of which each list is as long as its room.
func allRoom[T any](x T) T { return allRoomOf(reflect.ValueOf(x)).Interface().(T) }

func allRoomOf(v reflect.Value) reflect.Value {
	out := reflect.New(v.Type()).Elem()
	switch v.Kind() {
	case reflect.Struct:
		for i := range v.NumField() {
			out.Field(i).Set(allRoomOf(v.Field(i)))
		}
	case reflect.Slice:
		out.Set(reflect.MakeSlice(v.Type(), v.Cap(), v.Cap()))
		for i := range v.Cap() {
			out.Index(i).Set(allRoomOf(v.Slice(0, v.Cap()).Index(i)))
		}
	default:
		out.Set(v)
	}
	return out
}

// spoilAll writes into all lists, spare room included; the inner ones first.
func spoilAll(x any) { spoilValue(reflect.ValueOf(x)) }

func spoilValue(v reflect.Value) {
	switch v.Kind() {
	case reflect.Struct:
		for i := range v.NumField() {
			spoilValue(v.Field(i))
		}
	case reflect.Slice:
		whole := v.Slice(0, v.Cap())
		for i := range whole.Len() {
			spoilValue(whole.Index(i))
			whole.Index(i).Set(junk(v.Type().Elem(), -9))
		}
	}
}

func worldsToCall(t *testing.T) map[string]world {
	t.Helper()
	return map[string]world{
		"a plain one":                plainWorld(t),
		"a full one":                 fullWorld(t),
		"a new one":                  impl.WorldOpen(),
		"one with full shelves":      changedWorld(plainWorld(t), func(w *world) { w.Keeps[1] = withShelf(w.Keeps[1], impl.KeepShelf) }),
		"one that was told done":     changedWorld(plainWorld(t), func(w *world) { w.Net[3] = verdictMsg(1, 3, impl.ShopDone, turnedTree()) }),
		"one whose log clashes":      changedWorld(plainWorld(t), func(w *world) { w.Shop.Tree.Objs[2].Ver++ }),
		"one with nothing but a way": changedWorld(impl.WorldOpen(), func(w *world) { w.Net = plainMsgs(t) }),
		"one with empty shelf lists": changedWorld(plainWorld(t), func(w *world) { w.Keeps[1].Shelf = [][]op{nil, {}, nil} }),
		"one that is not ok":         changedWorld(plainWorld(t), func(w *world) { w.Keeps[1].Waits = false }),
	}
}

func TestWorldAnswersAreNewMemory(t *testing.T) {
	for why, given := range worldsToCall(t) {
		for _, e := range anyEvents(t) {
			wantNewWorld(t, fmt.Sprint(why, ", ", eventText(e)), given, func(w world) world { return impl.WorldDo(w, e) })
		}
		plays := [][]event{nil, {}, anyEvents(t)[:1], anyEvents(t), {twice(2), takes(2), takes(3), takes(3), takes(3)}}
		for at := range 4 {
			plays = append(plays, []event{twice(at), twice(at), takes(at)})
		}
		for i, events := range append(plays, make([]event, impl.WorldPlays+1)) {
			wantNewWorld(t, fmt.Sprint(why, ", play ", i), given, func(w world) world { return impl.WorldPlay(w, events) })
		}
	}
}

// wantNewWorld also asks that a world with empty lists is the same one as one with none.
func wantNewWorld(t *testing.T, why string, given world, call func(w world) world) {
	t.Helper()
	w := roomy(given)
	was, want := allRoom(w), copyWorld(call(given))
	first := call(w)
	rooms := roomsOf("answer", reflect.ValueOf(first))
	wantApart(t, why, append(rooms, roomsOf("world", reflect.ValueOf(w))...))
	spoilAll(first)
	if !reflect.DeepEqual(allRoom(w), was) {
		t.Errorf("%s: the world that was handed in, or what is behind its lists' ends, is another one", why)
	}
	again := call(w)
	if parts := partsApart(again, want); len(parts) > 0 {
		t.Errorf("%s: once more, it is another one in %v", why, parts)
	}
	spoilAll(w)
	if parts := partsApart(again, want); len(parts) > 0 {
		t.Errorf("%s: the answer is another one in %v behind a change of what was handed in", why, parts)
	}
}

// A part of an answer that is changed changes no other part of it.
func TestWorldPartsAreTheirOwn(t *testing.T) {
	for why, given := range worldsToCall(t) {
		for _, e := range anyEvents(t) {
			want := copyWorld(impl.WorldDo(given, e))
			for i, change := range partChanges {
				got := impl.WorldDo(given, e)
				change(got)
				// The same change of a copy of which no part shares anything with another.
				apart := copyWorld(want)
				change(apart)
				if parts := partsApart(got, apart); len(parts) > 0 {
					t.Errorf("%s, %s: change %d is seen in %v", why, eventText(e), i, parts)
				}
			}
		}
	}
}

// partChanges writes into each of the parts of a world.
var partChanges = []func(w world){
	func(w world) { spoilAll(w.Shop) },
	func(w world) { spoilEach(w.Keeps, 0) },
	func(w world) { spoilEach(w.Keeps, 1) },
	func(w world) { spoilEach(w.Keeps, 2) },
	func(w world) { spoilEach(w.Net, 0) },
	func(w world) { spoilEach(w.Net, len(w.Net)-1) },
	func(w world) { spoilEach(w.Net, len(w.Net)-2) },
	func(w world) { spoilEach(w.Past, 0) },
	func(w world) { spoilEach(w.Past, len(w.Past)-1) },
	func(w world) { spoilAll(w.Told) },
}

func spoilEach[T any](list []T, at int) {
	if at >= 0 && at < len(list) {
		spoilAll(list[at])
	}
}

// What others are asked leaves the worlds as they are, and so do plays their lists of events.
func TestWorldAsksOnly(t *testing.T) {
	for why, given := range worldsToCall(t) {
		w, other := roomy(given), roomy(plainWorld(t))
		was, wasOther := allRoom(w), allRoom(other)
		impl.WorldOk(w)
		impl.WorldSame(w, other)
		impl.WorldSame(other, w)
		if !reflect.DeepEqual(allRoom(w), was) || !reflect.DeepEqual(allRoom(other), wasOther) {
			t.Errorf("%s: WorldOk, or WorldSame, leaves another world", why)
		}
		events := roomy(anyEvents(t))
		wasEvents := slices.Clone(events[:cap(events)])
		impl.WorldPlay(w, events)
		if !slices.Equal(events[:cap(events)], wasEvents) {
			t.Errorf("%s: the list of events, or what is behind its end, is another one", why)
		}
	}
}
