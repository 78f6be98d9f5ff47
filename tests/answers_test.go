package tests

import (
	"fmt"
	"math"
	"reflect"
	"slices"
	"testing"

	"loop.example/footplate/impl"
)

// P10, over all functions at once. Whatever they are given and answer is gone through by reflection, so that no list of it is left out.

// given is an argument for each function.
type given struct {
	Net    impl.Net
	Lies   []int
	Spot   impl.Spot
	Long   int
	A, B   impl.Train
	Far    int
	Axles  []int
	Posts  []impl.Post
	Trains []impl.Train
	Speeds []int
	Parts  []impl.Part
}

type function struct {
	name string
	call func(g given) any
}

func functions() []function {
	return []function{
		{"NetOk", func(g given) any { return impl.NetOk(g.Net) }},
		{"LiesOk", func(g given) any { return impl.LiesOk(g.Net, g.Lies) }},
		{"TrainOk", func(g given) any { return impl.TrainOk(g.Net, g.A) }},
		{"Place", func(g given) any { return impl.Place(g.Net, g.Lies, g.Spot, g.Long) }},
		{"Body", func(g given) any { return impl.Body(g.Net, g.A) }},
		{"Tail", func(g given) any { return impl.Tail(g.Net, g.A) }},
		{"Turned", func(g given) any { return impl.Turned(g.Net, g.A) }},
		{"Sits", func(g given) any { return impl.Sits(g.Net, g.Lies, g.A) }},
		{"Meet", func(g given) any { return impl.Meet(g.Net, g.A, g.B) }},
		{"Move", func(g given) any { return impl.Move(g.Net, g.Lies, g.A, g.Far) }},
		{"Passes", func(g given) any { return impl.Passes(g.Net, g.Lies, g.A, g.Axles, g.Posts, g.Far) }},
		{"Tick", func(g given) any { return impl.Tick(g.Net, g.Lies, g.Trains, g.Speeds) }},
		{"Taken", func(g given) any { return impl.Taken(g.Net, g.Trains, g.Parts) }},
		{"Shown", func(g given) any { return impl.Shown(g.Net, g.Trains) }},
	}
}

// throwGiven is one for which most functions have something to answer.
func throwGiven(d *dice, s scene) given {
	g := given{Net: s.net, Lies: s.lies, Spot: d.spot(s.net), Long: 1 + d.roll(20), Far: d.roll(30), Trains: s.trains, Speeds: s.speeds, Parts: d.parts(s.net)}
	if len(s.trains) > 0 {
		g.A, g.B = s.trains[0], s.trains[len(s.trains)-1]
	}
	g.Axles, g.Posts = d.axles(g.A.Long), d.posts(s.net)
	return g
}

func manyGiven(seed uint64, count int) []given {
	d := dice{state: seed}
	var all []given
	for _, s := range scenes(seed, count) {
		all = append(all, throwGiven(&d, s))
	}
	for _, c := range allTicking() {
		s := scene{c.net, liesOf(c.net, c.lie), c.trains, c.speeds}
		all = append(all, throwGiven(&d, s))
	}
	return all
}

// each goes through all that a value holds, itself first. Room tells whether it looks behind the ends of lists too.
func each(v reflect.Value, room bool, look func(v reflect.Value)) {
	look(v)
	switch v.Kind() {
	case reflect.Struct:
		for i := range v.NumField() {
			each(v.Field(i), room, look)
		}
	case reflect.Slice:
		if room {
			v = v.Slice(0, v.Cap())
		}
		for i := range v.Len() {
			each(v.Index(i), room, look)
		}
	}
}

// copied is a value whose lists have so much room behind them, with numbers in it that belong to the caller too.
func copied(v reflect.Value, room int) reflect.Value {
	to := reflect.New(v.Type()).Elem()
	to.Set(v)
	switch v.Kind() {
	case reflect.Struct:
		for i := range v.NumField() {
			to.Field(i).Set(copied(v.Field(i), room))
		}
	case reflect.Slice:
		to = reflect.MakeSlice(v.Type(), v.Len()+room, v.Len()+room)
		each(to, false, func(x reflect.Value) {
			if x.Kind() == reflect.Int {
				x.SetInt(77)
			}
		})
		for i := range v.Len() {
			to.Index(i).Set(copied(v.Index(i), room))
		}
		to = to.Slice(0, v.Len())
	}
	return to
}

func roomyGiven(g given, room int) given {
	return copied(reflect.ValueOf(g), room).Interface().(given)
}

// written is all that a value holds, as a text: an empty list and none are the same.
func written(v any, room bool) string {
	var text []byte
	each(reflect.ValueOf(v), room, func(x reflect.Value) {
		switch x.Kind() {
		case reflect.Slice:
			text = fmt.Appendf(text, "list of %d ", x.Len())
		case reflect.Struct:
		default:
			text = fmt.Appendf(text, "%v ", x)
		}
	})
	return string(text)
}

// memory is where lists lie, each with the room behind it.
type memory struct{ from, to uintptr }

func memoryOf(v any) []memory {
	var all []memory
	each(reflect.ValueOf(v), false, func(x reflect.Value) {
		if x.Kind() == reflect.Slice && x.Cap() > 0 {
			from := x.Pointer()
			all = append(all, memory{from, from + uintptr(x.Cap())*x.Type().Elem().Size()})
		}
	})
	return all
}

func shareMemory(some, others []memory) bool {
	for _, a := range some {
		for _, b := range others {
			if a.from < b.to && b.from < a.to {
				return true
			}
		}
	}
	return false
}

// turnLists turns an answer's lists, then writes over them and over the room behind them.
func turnLists(v any) {
	each(reflect.ValueOf(v), false, func(x reflect.Value) {
		if x.Kind() != reflect.Slice {
			return
		}
		swap := reflect.Swapper(x.Interface())
		for i := range x.Len() / 2 {
			swap(i, x.Len()-1-i)
		}
	})
	each(reflect.ValueOf(v), true, func(x reflect.Value) {
		if x.Kind() == reflect.Int && x.CanSet() {
			x.SetInt(-5)
		}
	})
}

func wantClean(t *testing.T, f function, g given) any {
	t.Helper()
	g = roomyGiven(g, 2)
	before, lists := written(g, true), memoryOf(g)
	one, other := f.call(g), f.call(g)
	answer := written(one, false)
	if written(other, false) != answer || written(f.call(roomyGiven(g, 0)), false) != answer {
		t.Errorf("%s %v: two answers", f.name, g)
	}
	mine := memoryOf(one)
	if shareMemory(mine, lists) || shareMemory(mine, memoryOf(other)) {
		t.Errorf("%s %v: the answer's memory is not new", f.name, g)
	}
	for i := range mine {
		if shareMemory(mine[:i], mine[i:i+1]) {
			t.Errorf("%s %v: two lists of the answer share memory", f.name, g)
		}
	}
	turnLists(one)
	if written(g, true) != before {
		t.Errorf("%s %v: an argument was written into", f.name, g)
	}
	if written(other, false) != answer || written(f.call(g), false) != answer {
		t.Errorf("%s %v: the answer changes with another", f.name, g)
	}
	return other
}

func TestAnswersOfAllFunctions(t *testing.T) {
	many := manyGiven(71, 1500)
	for _, f := range functions() {
		seen := map[string]int{}
		lists := 0
		for _, g := range many {
			answer := wantClean(t, f, g)
			seen[written(answer, false)]++
			lists += len(memoryOf(answer))
			if t.Failed() {
				t.FailNow()
			}
		}
		if len(seen) < 2 && f.name != "NetOk" && f.name != "LiesOk" {
			t.Errorf("%s: one answer for all", f.name)
		}
		if slices.Contains([]string{"Place", "Body", "Turned", "Move", "Passes", "Tick", "Taken"}, f.name) && lists < 300 {
			t.Errorf("%s: only %d lists", f.name, lists)
		}
	}
}

// spoil sets some numbers and lists of an argument to what a careless reckoning would trip over.
func (d *dice) spoil(g *given) {
	odd := []int{math.MinInt, math.MinInt + 1, -1 << 40, -10001, -2, -1, 0, 1, 2, 3, 4, 5, 99, 1000, 10001, 100001, 10000001, 1 << 40, math.MaxInt - 1, math.MaxInt}
	var numbers, lists []reflect.Value
	each(reflect.ValueOf(g).Elem(), false, func(x reflect.Value) {
		switch x.Kind() {
		case reflect.Int:
			numbers = append(numbers, x)
		case reflect.Slice:
			lists = append(lists, x)
		}
	})
	for range 1 + d.roll(3) {
		numbers[d.roll(len(numbers))].SetInt(int64(odd[d.roll(len(odd))]))
	}
	if d.roll(4) > 0 {
		return
	}
	list := lists[d.roll(len(lists))]
	switch long := list.Len(); {
	case d.roll(3) == 0:
		list.SetZero()
	case d.roll(2) == 0:
		list.Set(list.Slice(0, long/2))
	default:
		for range d.roll(4) * long {
			list.Set(reflect.Append(list, list.Index(d.roll(long))))
		}
	}
}

// answerOf is false when the call panics.
func answerOf(f function, g given) (text string, ok bool) {
	defer func() {
		if recover() != nil {
			ok = false
		}
	}()
	return written(f.call(g), false), true
}

func wantAnswers(t *testing.T, g given) {
	t.Helper()
	before := written(g, true)
	for _, f := range functions() {
		one, ok := answerOf(f, g)
		other, again := answerOf(f, g)
		if !ok || !again {
			t.Fatalf("%s panics: %v", f.name, g)
		}
		if one != other {
			t.Fatalf("%s %v: two answers", f.name, g)
		}
	}
	if written(g, true) != before {
		t.Fatalf("an argument was written into: %v", g)
	}
}

func TestNothingPanics(t *testing.T) {
	wantAnswers(t, given{})
	d := dice{state: 73}
	for _, g := range manyGiven(79, 1500) {
		for range 6 {
			x := roomyGiven(g, 1)
			d.spoil(&x)
			wantAnswers(t, x)
		}
	}
}

// Every number of an argument far out of range, one by one.
func TestNothingPanicsFarOutOfRange(t *testing.T) {
	y := yard()
	g := given{Net: y, Lies: yardLies(1), Spot: spot(pc, 10, 1), Long: 40, A: intoLeft(), B: train(spot(pa, 70, 1), 30), Far: 30,
		Axles: []int{0, 40, 115}, Posts: []impl.Post{post(pe, 30), post(pa, 99)}, Trains: yardTrains(), Speeds: []int{5, 0, 30, 1, 10000}, Parts: parts(part(pa, 0, 100), part(pe, 3, 3))}
	for _, v := range []int{math.MinInt, math.MinInt + 1, -1, math.MaxInt - 1, math.MaxInt} {
		x := roomyGiven(g, 1)
		each(reflect.ValueOf(&x).Elem(), false, func(number reflect.Value) {
			if number.Kind() == reflect.Int {
				was := number.Int()
				number.SetInt(int64(v))
				wantAnswers(t, x)
				number.SetInt(was)
			}
		})
		each(reflect.ValueOf(&x).Elem(), false, func(number reflect.Value) {
			if number.Kind() == reflect.Int {
				number.SetInt(int64(v))
			}
		})
		wantAnswers(t, x)
	}
	long := given{Net: impl.Net{Pieces: y.Pieces, Joints: make([]impl.Joint, 100000)}, Lies: make([]int, 100000)}
	wantAnswers(t, long)
	wantAnswers(t, given{Net: y, Lies: yardLies(1), A: impl.Train{Front: spot(pa, 70, 1), Long: 30, Back: make([]impl.Step, 100000)}, Trains: make([]impl.Train, 100000), Speeds: make([]int, 100000), Parts: make([]impl.Part, 100000), Axles: make([]int, 100000), Posts: make([]impl.Post, 100000)})
}
