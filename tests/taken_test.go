package tests

import (
	"math"
	"slices"
	"testing"

	"loop.example/footplate/impl"
)

// taking is parts of which it is told who lies on them.
type taking struct {
	what  string
	parts []impl.Part
	want  []int
}

func parts(all ...impl.Part) []impl.Part { return all }

// yardTrains: 0 on a from 40 to 70; 1 on e, c, b and a from 95 on; 2 on d from 10 to 20; 3 on a from 30 to 40; 4 with its front just at end 0 of d, all of it on b from 50 to 60.
func yardTrains() []impl.Train {
	return fleet(
		train(spot(pa, 70, 1), 30),
		intoLeft(),
		train(spot(pd, 20, 1), 10),
		train(spot(pa, 30, -1), 10),
		train(spot(pd, 0, 1), 10, step(pb, 1)),
	)
}

func takingInYard() []taking {
	return []taking{
		{"no parts", nil, nil},
		{"an empty list", parts(), nil},
		{"free track", parts(part(pa, 0, 29)), nil},
		{"just beside a body", parts(part(pa, 0, 30)), []int{3}},
		{"within a body", parts(part(pa, 50, 60)), []int{0}},
		{"around a body", parts(part(pd, 5, 25)), []int{2}},
		{"a whole piece", parts(part(pa, 0, 100)), []int{0, 1, 3}},
		{"between two bodies", parts(part(pa, 71, 94)), nil},
		{"from one body to another", parts(part(pa, 70, 95)), []int{0, 1}},
		{"one place within", parts(part(pa, 55, 55)), []int{0}},
		{"one place at a To", parts(part(pa, 70, 70)), []int{0}},
		{"one place behind a To", parts(part(pa, 71, 71)), nil},
		{"one place at a From", parts(part(pa, 95, 95)), []int{1}},
		{"one place ahead of a From", parts(part(pa, 94, 94)), nil},
		{"one place of two bodies", parts(part(pa, 40, 40)), []int{0, 3}},
		{"one place at end 1", parts(part(pa, 100, 100)), []int{1}},
		{"one place at end 0", parts(part(pa, 0, 0)), nil},
		{"one place at end 0 of a body", parts(part(pc, 0, 0)), []int{1}},
		{"the last place of a free piece", parts(part(pe, 50, 50)), nil},
		{"the last part of a body", parts(part(pa, 80, 99)), []int{1}},
		{"the first part of a body", parts(part(pe, 10, 50)), []int{1}},
		{"one place off the first part", parts(part(pe, 11, 50)), nil},
		{"the front's part is empty", parts(part(pd, 0, 9)), nil},
		{"behind that", parts(part(pb, 60, 60)), []int{1, 4}},
		{"two parts, the later train first", parts(part(pd, 10, 20), part(pa, 50, 60)), []int{0, 2}},
		{"one train by two parts", parts(part(pa, 50, 60), part(pa, 65, 66)), []int{0}},
		{"one part twice", parts(part(pa, 50, 60), part(pa, 50, 60)), []int{0}},
		{"one train by parts on two pieces", parts(part(pc, 1, 2), part(pe, 1, 2)), []int{1}},
		{"one that is free and one that is not", parts(part(pe, 20, 30), part(pd, 15, 15), part(pa, 80, 90)), []int{2}},
		{"everything", parts(part(pe, 0, 50), part(pd, 0, 30), part(pc, 0, 40), part(pb, 0, 60), part(pa, 0, 100)), []int{0, 1, 2, 3, 4}},
		{"the same numbers on other pieces", parts(part(pd, 21, 30), part(pe, 40, 45)), nil},
	}
}

func wantTaken(t *testing.T, what string, got, want []int) {
	t.Helper()
	if !slices.Equal(got, want) {
		t.Errorf("%s: Taken is %v, not %v", what, got, want)
	}
}

func TestTaken(t *testing.T) {
	y := yard()
	for i, x := range yardTrains() {
		if !impl.TrainOk(y, x) {
			t.Errorf("%d is no train", i)
		}
	}
	for _, c := range takingInYard() {
		wantTaken(t, c.what, impl.Taken(y, yardTrains(), c.parts), c.want)
		wantTaken(t, c.what+", by the model", modelTaken(y, yardTrains(), c.parts), c.want)
		turned := slices.Clone(c.parts)
		slices.Reverse(turned)
		wantTaken(t, c.what+", turned", impl.Taken(y, yardTrains(), turned), c.want)
		wantTaken(t, c.what+", no trains", impl.Taken(y, nil, c.parts), nil)
	}
}

func TestTakenTwiceOverOnePiece(t *testing.T) {
	y := yard()
	twice := train(spot(pb, 15, -1), 200, step(pc, -1), step(pe, -1), step(pd, 1), step(pb, 1))
	far := train(spot(pb, 15, -1), 226, step(pc, -1), step(pe, -1), step(pd, 1), step(pb, 1), step(pa, 1))
	wantTaken(t, "both parts", impl.Taken(y, fleet(twice), parts(part(pb, 30, 40))), []int{0})
	wantTaken(t, "the first part", impl.Taken(y, fleet(twice), parts(part(pb, 15, 20))), []int{0})
	wantTaken(t, "neither", impl.Taken(y, fleet(twice), parts(part(pb, 0, 14))), nil)
	wantTaken(t, "the second part", impl.Taken(y, fleet(twice, far), parts(part(pb, 0, 14))), []int{1})
}

// Each of a row alone, and the row up to it.
func TestTakenOfTheMostTrains(t *testing.T) {
	n, trains, _ := aRow(20)
	var all []int
	for i := range trains {
		all = append(all, i)
		at := 50 + 100*i
		wantTaken(t, "one of a row", impl.Taken(n, trains, parts(part(0, at, at))), []int{i})
		wantTaken(t, "the row so far", impl.Taken(n, trains, parts(part(0, 0, at))), all)
	}
	wantTaken(t, "none of a row", impl.Taken(n, trains, parts(part(0, 51, 139))), nil)
	same := slices.Repeat(trains[:1], 20)
	wantTaken(t, "one 20 times", impl.Taken(n, same, parts(part(0, 45, 45))), all)
	wantTaken(t, "21 trains", impl.Taken(n, slices.Repeat(trains[:1], 21), parts(part(0, 45, 45))), nil)
	wantTaken(t, "21 trains, no parts", impl.Taken(n, slices.Repeat(trains[:1], 21), nil), nil)
	wantTaken(t, "10000 trains", impl.Taken(n, slices.Repeat(trains[:1], 10000), parts(part(0, 45, 45))), nil)
}

func TestTakenByTheMostParts(t *testing.T) {
	y := yard()
	free, taken := part(pa, 71, 94), part(pa, 70, 70)
	for _, count := range []int{1, 2, 999, 1000} {
		for _, at := range []int{0, count / 2, count - 1} {
			many := slices.Repeat(parts(free), count)
			wantTaken(t, "free parts", impl.Taken(y, yardTrains(), many), nil)
			many[at] = taken
			wantTaken(t, "one of many", impl.Taken(y, yardTrains(), many), []int{0})
		}
		wantTaken(t, "many times one", impl.Taken(y, yardTrains(), slices.Repeat(parts(taken), count)), []int{0})
	}
	for _, count := range []int{1001, 1002, 100000} {
		wantTaken(t, "too many parts", impl.Taken(y, yardTrains(), slices.Repeat(parts(taken), count)), nil)
	}
}

// wrongParts lie on no piece of yard, or not within it.
func wrongParts() []impl.Part {
	wrong := parts(
		part(-1, 40, 70), part(5, 40, 70), part(6, 40, 70), part(100, 0, 0),
		part(pa, -1, 70), part(pa, -1, -1), part(pa, -2, 0),
		part(pa, 56, 55), part(pa, 100, 0), part(pa, 70, 69), part(pa, 1, 0),
		part(pa, 40, 101), part(pa, 101, 101), part(pa, 0, 102), part(pb, 0, 61), part(pc, 0, 41), part(pd, 0, 31), part(pe, 0, 51),
	)
	for _, v := range []int{math.MinInt, math.MinInt + 1, math.MaxInt - 1, math.MaxInt} {
		wrong = append(wrong, part(v, 40, 70), part(pa, v, 70), part(pa, 40, v), part(pa, v, v), part(v, v, v))
	}
	return append(wrong, part(pa, math.MinInt, math.MaxInt), part(pa, math.MaxInt, math.MinInt))
}

func TestTakenByWrongParts(t *testing.T) {
	y := yard()
	right := parts(part(pa, 0, 100), part(pb, 0, 60), part(pc, 0, 40), part(pd, 0, 30), part(pe, 0, 50))
	wantTaken(t, "up to Len", impl.Taken(y, yardTrains(), right), []int{0, 1, 2, 3, 4})
	for _, wrong := range wrongParts() {
		wantTaken(t, "one alone", impl.Taken(y, yardTrains(), parts(wrong)), nil)
		for i := range len(right) + 1 {
			wantTaken(t, "among right ones", impl.Taken(y, yardTrains(), slices.Insert(slices.Clone(right), i, wrong)), nil)
		}
	}
}

func TestTakenWrongNetsAndTrains(t *testing.T) {
	y := yard()
	all := parts(part(pa, 0, 100))
	for _, n := range wrongYards() {
		wantTaken(t, "a net that is not right", impl.Taken(n, yardTrains(), all), nil)
		wantTaken(t, "a net that is not right", impl.Taken(n, yardTrains()[:1], parts(part(pa, 50, 50))), nil)
		wantTaken(t, "a net that is not right, nothing on it", impl.Taken(n, nil, nil), nil)
	}
	for _, no := range append(oddTrains(), train(spot(pa, 70, 1), 71), train(spot(pa, 70, 1), 30, step(pb, 1)), train(spot(pc, 10, 1), 75, step(pb, 1))) {
		if impl.TrainOk(y, no) {
			continue
		}
		for i := range 6 {
			wantTaken(t, "one is none", impl.Taken(y, slices.Insert(yardTrains(), i, no), all), nil)
		}
	}
}

func TestTakenAgainstTheModel(t *testing.T) {
	d := dice{state: 53}
	some, none := 0, 0
	for i, s := range scenes(59, 6000) {
		all := d.parts(s.net)
		got, want := impl.Taken(s.net, s.trains, all), modelTaken(s.net, s.trains, all)
		if !slices.Equal(got, want) {
			t.Fatalf("scene %d, %v, %v: Taken is %v, not %v", i, s, all, got, want)
		}
		some += number(len(want) > 0)
		none += number(len(want) == 0 && len(all) > 0 && len(s.trains) > 0)
	}
	if some < 1000 || none < 500 {
		t.Errorf("%d times some, %d times none", some, none)
	}
}

// takenAt is who lies at each place of a net, as Taken tells.
func takenAt(s scene) [][]int {
	var all [][]int
	for p, x := range s.net.Pieces {
		for at := range x.Len + 1 {
			all = append(all, impl.Taken(s.net, s.trains, parts(part(p, at, at))))
		}
	}
	return all
}

// P7: two meet just when Taken names both at some place; and Taken names those that meet a train, on its body.
func TestTwoMeetAtSomePlace(t *testing.T) {
	meetings, apart := 0, 0
	for i, s := range scenes(61, 2500) {
		places := takenAt(s)
		for a := range s.trains {
			var others []int
			for b := range s.trains {
				both := func(taken []int) bool { return slices.Contains(taken, a) && slices.Contains(taken, b) }
				meet := impl.Meet(s.net, s.trains[a], s.trains[b])
				if meet != slices.ContainsFunc(places, both) || meet != modelMeet(s.net, s.trains[a], s.trains[b]) {
					t.Fatalf("scene %d, %v: %d and %d, Meet is %v", i, s, a, b, meet)
				}
				if meet {
					others = append(others, b)
				}
				meetings += number(meet && a != b)
				apart += number(!meet)
			}
			wantTaken(t, "on a body", impl.Taken(s.net, s.trains, impl.Body(s.net, s.trains[a])), others)
		}
	}
	if meetings < 2000 || apart < 2000 {
		t.Errorf("%d meetings, %d apart", meetings, apart)
	}
}
