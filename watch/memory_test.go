package watch_test

import (
	"reflect"
	"testing"

	"stevedore/api"
	"stevedore/watch"
)

// fill puts something into each field of v, two members into each list.
func fill(v reflect.Value, n *int) {
	*n++
	switch v.Kind() {
	case reflect.Struct:
		for k := range v.NumField() {
			fill(v.Field(k), n)
		}
	case reflect.Slice:
		v.Set(reflect.MakeSlice(v.Type(), 2, 5))
		for k := range v.Len() {
			fill(v.Index(k), n)
		}
	case reflect.String:
		v.SetString(string(rune('a' + *n%26)))
	case reflect.Bool:
		v.SetBool(true)
	default:
		v.SetInt(int64(*n))
	}
}

// rich is a log of two changes of each kind, with something in each field of each object, and room behind it.
func rich() []api.Change {
	log := make([]api.Change, 12, 20)
	n := 0
	for k := range log {
		fill(reflect.ValueOf(&log[k]).Elem(), &n)
		log[k].Version, log[k].Op, log[k].Object.Kind = k+1, api.Changed, 1+k%6
	}
	return log
}

// spoilt writes into each list of x, behind its end, too, and deepest first.
func spoilt(x any) { scribble(reflect.ValueOf(x)) }

func scribble(v reflect.Value) {
	switch v.Kind() {
	case reflect.Struct:
		for k := range v.NumField() {
			scribble(v.Field(k))
		}
	case reflect.Slice:
		v = v.Slice(0, v.Cap())
		for k := range v.Len() {
			scribble(v.Index(k))
			spoil(v.Index(k))
		}
	}
}

// spoil puts something else into each field that is a text, a number or a truth.
func spoil(v reflect.Value) {
	switch v.Kind() {
	case reflect.Struct:
		for k := range v.NumField() {
			spoil(v.Field(k))
		}
	case reflect.String:
		v.SetString("scribbled")
	case reflect.Int:
		v.SetInt(-77)
	case reflect.Bool:
		v.SetBool(!v.Bool())
	}
}

// Rule 4: the log that is handed in stays as it was, whatever is asked.
func TestHandedIn(t *testing.T) {
	log := rich()
	w := watch.New(0)
	for _, kind := range append(allKinds(), noKinds()...) {
		for _, n := range []int{-1, 0, 1, 9} {
			w.Next(kind, n, log)
			w.Behind(kind, log)
		}
		w.Cut(kind)
		w.Next(kind, 1, log)
		w.Behind(kind, log)
	}
	same(t, "the log", log[:cap(log)], append(rich(), make([]api.Change, 8)...))
}

// Rule 4: what came can be written into without a change in the log or in the watcher.
func TestHandedOut(t *testing.T) {
	log := rich()
	for _, kind := range allKinds() {
		for _, n := range []int{1, 2, 9} {
			w := watch.New(0)
			l, _ := w.Next(kind, n, log)
			same(t, "how many", len(l), min(n, 2))
			was := look(w, rich())
			spoilt(l)
			same(t, "the log", log[:cap(log)], append(rich(), make([]api.Change, 8)...))
			same(t, "the watcher", look(w, rich()), was)
			rest, _ := w.Next(kind, 9, log)
			same(t, "what comes then", rest, behind(kind, 0, rich())[min(n, 2):])
		}
	}
}

// Rule 4: what came stays as it came, whatever is done to the log afterwards; so does what the watcher has seen.
func TestLogWrittenInto(t *testing.T) {
	for _, kind := range allKinds() {
		log, w := rich(), watch.New(0)
		l, _ := w.Next(kind, 2, log)
		was := look(w, rich())
		spoilt(log)
		same(t, "what came", l, behind(kind, 0, rich()))
		same(t, "what was seen", look(w, rich()), was)
	}
}

// piece is where a list lies, room and all.
type piece struct{ from, to uintptr }

func pieces(v reflect.Value, tell func(piece)) {
	switch v.Kind() {
	case reflect.Struct:
		for k := range v.NumField() {
			pieces(v.Field(k), tell)
		}
	case reflect.Slice:
		if v.Cap() > 0 {
			tell(piece{v.Pointer(), v.Pointer() + uintptr(v.Cap())*v.Type().Elem().Size()})
		}
		for k := range v.Len() {
			pieces(v.Index(k), tell)
		}
	}
}

// Rule 4: no list that is handed out shares memory with the log, or with another one.
func TestHandedOutApart(t *testing.T) {
	log := rich()
	all := []any{log}
	for _, w := range []*watch.Watcher{watch.New(0), watch.New(0), watch.New(0).Clone()} {
		for _, kind := range allKinds() {
			a, _ := w.Next(kind, 1, log)
			b, _ := w.Next(kind, 9, log)
			all = append(all, a, b)
		}
	}
	var seen []piece
	for _, x := range all {
		pieces(reflect.ValueOf(x), func(p piece) {
			for _, q := range seen {
				if p.from < q.to && q.from < p.to {
					t.Fatal("two lists share memory")
				}
			}
			seen = append(seen, p)
		})
	}
	if len(seen) < 1000 {
		t.Errorf("%d lists", len(seen))
	}
}
