package tests

import (
	"math"
	"reflect"
	"slices"
	"testing"

	"loop.example/footplate/impl"
)

// ticking is a world that ticks, and who is to strike whom. Lie is how the net's switch lies.
type ticking struct {
	what   string
	net    impl.Net
	lie    int
	trains []impl.Train
	speeds []int
	want   []impl.Strike
}

func fleet(trains ...impl.Train) []impl.Train { return trains }

// hits are strikes, two numbers each: by whom, of whom.
func hits(numbers ...int) []impl.Strike {
	var all []impl.Strike
	for i := 0; i < len(numbers); i += 2 {
		all = append(all, impl.Strike{By: numbers[i], Of: numbers[i+1]})
	}
	return all
}

func tickingToEachOther() []ticking {
	y := yard()
	to, fro := train(spot(pa, 70, 1), 30), train(spot(pa, 80, -1), 10)
	both, second := fleet(to, fro), fleet(fro, to)
	return []ticking{
		{"the first moves, one place off", y, 0, both, []int{9, 0}, nil},
		{"the first moves, one place in common", y, 0, both, []int{10, 0}, hits(0, 1, 1, 0)},
		{"the first moves into the other", y, 0, both, []int{15, 0}, hits(0, 1, 1, 0)},
		{"the second moves, one place off", y, 0, both, []int{0, 9}, nil},
		{"the second moves, one place in common", y, 0, both, []int{0, 10}, hits(1, 0)},
		{"both move, one place off", y, 0, both, []int{4, 5}, nil},
		{"both move, one place in common", y, 0, both, []int{5, 5}, hits(1, 0)},
		{"in the other order, one place off", y, 0, second, []int{9, 0}, nil},
		{"in the other order", y, 0, second, []int{10, 0}, hits(0, 1, 1, 0)},
		{"in the other order, the second moves", y, 0, second, []int{5, 5}, hits(1, 0)},
		{"the first jumps over the other", y, 0, both, []int{100, 0}, hits(0, 1)},
		{"both jump over one another", y, 0, both, []int{100, 70}, hits(0, 1)},
		{"neither moves", y, 0, both, []int{0, 0}, nil},
	}
}

func tickingOneBehindTheOther() []ticking {
	y := yard()
	back, ahead := train(spot(pa, 20, 1), 10), train(spot(pa, 50, 1), 10)
	into := train(spot(pb, 10, -1), 10)
	return []ticking{
		{"ends one place off", y, 0, fleet(back, ahead), []int{19, 0}, nil},
		{"ends just beside it", y, 0, fleet(back, ahead), []int{20, 0}, hits(0, 1, 1, 0)},
		{"ends on it", y, 0, fleet(back, ahead), []int{25, 0}, hits(0, 1, 1, 0)},
		{"its tail just beside it", y, 0, fleet(back, ahead), []int{40, 0}, hits(0, 1, 1, 0)},
		{"only driven over", y, 0, fleet(back, ahead), []int{41, 0}, hits(0, 1)},
		{"only driven over, and the mover far away", y, 1, fleet(back, ahead), []int{200, 0}, hits(0, 1)},
		{"out of the way before", y, 0, fleet(ahead, back), []int{50, 60}, nil},
		{"not far enough out of the way", y, 0, fleet(ahead, back), []int{39, 60}, hits(1, 0)},
		{"out of the way by one place", y, 0, fleet(ahead, back), []int{41, 60}, nil},
		{"out of the way, but too late", y, 0, fleet(back, ahead), []int{25, 50}, hits(0, 1)},
		{"driven over, and drives over it", y, 0, fleet(back, ahead), []int{60, 50}, hits(0, 1, 1, 0)},
		{"comes into the way later", y, 0, fleet(back, into), []int{60, 40}, hits(1, 0)},
		{"came into the way before", y, 0, fleet(into, back), []int{40, 60}, hits(1, 0)},
		{"comes where the other was", y, 0, fleet(back, into), []int{30, 80}, hits(1, 0)},
		{"where the other was before it moved", y, 0, fleet(ahead, into), []int{0, 49}, nil},
	}
}

func tickingFromTheStart() []ticking {
	y := yard()
	a, tail, nose := train(spot(pa, 70, 1), 30), train(spot(pa, 50, 1), 20), train(spot(pa, 80, 1), 20)
	return []ticking{
		{"both stay", y, 0, fleet(a, tail), []int{0, 0}, hits(0, 1, 1, 0)},
		{"one place in common, both stay", y, 0, fleet(a, train(spot(pa, 80, 1), 10)), []int{0, 0}, hits(0, 1, 1, 0)},
		{"no place in common, both stay", y, 0, fleet(a, train(spot(pa, 81, 1), 10)), []int{0, 0}, nil},
		{"the same train twice", y, 0, fleet(a, a), []int{0, 0}, hits(0, 1, 1, 0)},
		{"the same train twice, both move", y, 0, fleet(a, a), []int{5, 5}, hits(0, 1, 1, 0)},
		{"drives off, not far enough", y, 0, fleet(a, tail), []int{10, 0}, hits(0, 1, 1, 0)},
		{"drives off", y, 0, fleet(a, tail), []int{11, 0}, nil},
		{"drives off over what was in common", y, 1, fleet(a, nose), []int{100, 0}, hits(0, 1)},
		{"the second drives off", y, 0, fleet(tail, a), []int{0, 11}, hits(0, 1)},
	}
}

func tickingMany() []ticking {
	y := yard()
	near, far, mover := train(spot(pa, 50, 1), 10), train(spot(pa, 70, 1), 10), train(spot(pa, 20, 1), 10)
	long := train(spot(pa, 90, 1), 80)
	return []ticking{
		{"not in the order of the way", y, 0, fleet(far, mover, near), []int{0, 80, 0}, hits(1, 0, 1, 2)},
		{"the last strikes all", y, 0, fleet(far, near, mover), []int{0, 0, 80}, hits(2, 0, 2, 1)},
		{"the first strikes all", y, 0, fleet(mover, far, near), []int{80, 0, 0}, hits(0, 1, 0, 2)},
		{"each strikes each", y, 0, fleet(long, long, long), []int{0, 0, 0}, hits(0, 1, 0, 2, 1, 0, 1, 2, 2, 0, 2, 1)},
		{"one around two", y, 0, fleet(near, long, far), []int{0, 0, 0}, hits(0, 1, 1, 0, 1, 2, 2, 1)},
		{"one of two", y, 0, fleet(mover, far, near), []int{39, 0, 0}, hits(0, 2, 2, 0)},
		{"one after the other", y, 0, fleet(mover, near, far), []int{20, 10, 0}, hits(0, 1, 1, 2, 2, 1)},
		{"one after the other, the foremost first", y, 0, fleet(far, near, mover), []int{20, 20, 20}, nil},
		{"one after the other, the hindmost first", y, 0, fleet(mover, near, far), []int{20, 20, 20}, hits(0, 1, 1, 2, 2, 1)},
		{"the foremost drives off from beside, over one place", y, 0, fleet(near, far), []int{20, 20}, hits(0, 1, 1, 0)},
		{"the foremost drives off, one place between", y, 0, fleet(near, far), []int{19, 20}, hits(0, 1)},
	}
}

func tickingOverJoints() []ticking {
	y := yard()
	atJoint, behindJoint := train(spot(pa, 90, 1), 10), train(spot(pb, 10, 1), 10)
	onLeft, onRight, atTip := train(spot(pc, 20, 1), 10), train(spot(pd, 20, 1), 10), train(spot(pb, 50, 1), 10)
	onE := train(spot(pe, 30, 1), 10)
	return []ticking{
		{"two sides of a joint have no place in common", y, 0, fleet(atJoint, behindJoint), []int{10, 0}, nil},
		{"one over the joint", y, 0, fleet(atJoint, behindJoint), []int{11, 0}, hits(0, 1, 1, 0)},
		{"the same numbers on another piece", y, 0, fleet(atJoint, train(spot(pb, 50, 1), 40)), []int{5, 0}, nil},
		{"into the left branch", y, 1, fleet(atTip, onLeft, onRight), []int{20, 0, 0}, hits(0, 1, 1, 0)},
		{"into the right branch", y, 2, fleet(atTip, onLeft, onRight), []int{20, 0, 0}, hits(0, 2, 2, 0)},
		{"stays at the switch", y, 0, fleet(atTip, onLeft, onRight), []int{20, 0, 0}, nil},
		{"over the whole round", y, 1, fleet(atTip, onLeft, onRight, onE), []int{999, 0, 0, 0}, hits(0, 1, 0, 2, 0, 3, 2, 0)},
		{"stays at a buffer, one place off", y, 0, fleet(train(spot(pa, 90, -1), 10), train(spot(pb, 10, 1), 10)), []int{999, 0}, nil},
		{"stays at a buffer, over the other", y, 0, fleet(train(spot(pa, 90, -1), 10), train(spot(pa, 60, 1), 10)), []int{999, 0}, hits(0, 1)},
		{"the two ways of a crossing", y, 1, fleet(train(spot(pc, 35, 1), 10), train(spot(pd, 25, 1), 10)), []int{15, 15}, nil},
		{"the two ways of a crossing, one place in common", y, 1, fleet(train(spot(pc, 35, 1), 10), train(spot(pd, 25, 1), 10)), []int{30, 30}, hits(1, 0)},
		{"the part of the front is empty", y, 1, fleet(train(spot(pc, 0, 1), 20, step(pb, 1)), train(spot(pc, 10, 1), 10)), []int{0, 0}, nil},
	}
}

func tickingNotSitting() []ticking {
	y := yard()
	left := train(spot(pc, 10, 1), 20, step(pb, 1))
	comes := train(spot(pb, 20, 1), 10)
	return []ticking{
		{"one that stays is struck, and strikes", y, 2, fleet(comes, left), []int{30, 50}, hits(0, 1, 1, 0)},
		{"one that stays has not moved", y, 2, fleet(left, comes), []int{50, 30}, hits(1, 0)},
		{"it drives over nobody", y, 2, fleet(left, train(spot(pc, 30, 1), 10)), []int{50, 0}, nil},
		{"two that stay over one another", y, 0, fleet(left, left), []int{50, 50}, hits(0, 1, 1, 0)},
		{"one place off", y, 2, fleet(comes, left), []int{29, 50}, nil},
	}
}

func tickingRound() []ticking {
	y := yard()
	twice := train(spot(pb, 15, -1), 200, step(pc, -1), step(pe, -1), step(pd, 1), step(pb, 1))
	comes := train(spot(pa, 100, 1), 10)
	once, other := train(spot(0, 50, 1), 10), train(spot(0, 80, 1), 10)
	long := train(spot(0, 50, 1), 250, step(0, 1), step(0, 1))
	return []ticking{
		{"over one piece twice, one place off", y, 1, fleet(comes, twice), []int{14, 0}, nil},
		{"over one piece twice, beside one part", y, 1, fleet(comes, twice), []int{15, 0}, hits(0, 1, 1, 0)},
		{"over one piece twice, into both parts", y, 1, fleet(comes, twice), []int{30, 0}, hits(0, 1, 1, 0)},
		{"three times over the other", circle(100), 0, fleet(once, other), []int{310, 0}, hits(0, 1)},
		{"once round, behind the other", circle(100), 0, fleet(once, other), []int{19, 0}, nil},
		{"longer than its round", circle(100), 0, fleet(long), []int{120}, nil},
		{"longer than its round, and another", circle(100), 0, fleet(long, once), []int{120, 7}, hits(0, 1, 1, 0)},
		{"round to its own tail", circle(100), 0, fleet(once), []int{impl.MaxFar}, nil},
		{"all the way round", circle(100), 0, fleet(once, other), []int{0, impl.MaxFar}, hits(1, 0)},
	}
}

func allTicking() []ticking {
	return slices.Concat(tickingToEachOther(), tickingOneBehindTheOther(), tickingFromTheStart(), tickingMany(), tickingOverJoints(), tickingNotSitting(), tickingRound())
}

// wantAsMoves: what Tick tells of each train is what Move does.
func wantAsMoves(t *testing.T, what string, s scene, got impl.Ticked) {
	t.Helper()
	if !got.Ok || len(got.Trains) != len(s.trains) || len(got.Codes) != len(s.trains) || len(got.Far) != len(s.trains) {
		t.Fatalf("%s: Tick is %v", what, got)
	}
	for i, x := range s.trains {
		m := impl.Move(s.net, s.lies, x, s.speeds[i])
		if !sameTrain(got.Trains[i], m.Train) || got.Codes[i] != m.Code || got.Far[i] != m.Far {
			t.Errorf("%s: train %d is %v %d %d, Move %v", what, i, got.Trains[i], got.Codes[i], got.Far[i], m)
		}
	}
}

func TestStrikes(t *testing.T) {
	for _, c := range allTicking() {
		s := scene{c.net, liesOf(c.net, c.lie), c.trains, c.speeds}
		for i, x := range c.trains {
			if !impl.TrainOk(c.net, x) {
				t.Errorf("%s: %d is no train", c.what, i)
			}
		}
		got := impl.Tick(s.net, s.lies, s.trains, s.speeds)
		wantAsMoves(t, c.what, s, got)
		if !slices.Equal(got.Strikes, c.want) {
			t.Errorf("%s: strikes are %v, not %v", c.what, got.Strikes, c.want)
		}
		if want := modelTick(s.net, s.lies, s.trains, s.speeds); !slices.Equal(want.Strikes, c.want) {
			t.Errorf("%s: by the model strikes are %v, not %v", c.what, want.Strikes, c.want)
		}
	}
}

// The moves of chapter 3, as many at once as there may be trains on one net.
func TestTicksAreMoves(t *testing.T) {
	left := allMoving()
	codes := map[int]int{}
	for len(left) > 0 {
		var others []moving
		var now []moving
		for _, m := range left {
			if len(now) < impl.MaxTrains && m.lie == left[0].lie && reflect.DeepEqual(m.net, left[0].net) {
				now = append(now, m)
			} else {
				others = append(others, m)
			}
		}
		left = others
		s := scene{net: now[0].net, lies: liesOf(now[0].net, now[0].lie)}
		want := impl.Ticked{Ok: true}
		for _, m := range now {
			s.trains, s.speeds = append(s.trains, m.train), append(s.speeds, m.far)
			want.Trains = append(want.Trains, m.want.Train)
			want.Codes, want.Far = append(want.Codes, m.want.Code), append(want.Far, m.want.Far)
			codes[m.want.Code]++
		}
		got := impl.Tick(s.net, s.lies, s.trains, s.speeds)
		want.Strikes = got.Strikes
		if !sameTicked(got, want) {
			t.Errorf("Tick of %v is %v, not %v", s, got, want)
		}
	}
	for _, code := range []int{0, 1, 2, 3, 4} {
		if codes[code] == 0 {
			t.Errorf("no move with code %d", code)
		}
	}
}

func TestTickWithTheMostSteps(t *testing.T) {
	n, x := roundAndRound(t, 100, 5, 1, 2005)
	lies := make([]int, 100)
	stands := x
	stands.Front.At = 10
	short := train(spot(50, 5, 1), 5)
	got := impl.Tick(n, lies, fleet(x, short), []int{6, 0})
	want := impl.Ticked{Ok: true, Trains: fleet(stands, short), Codes: []int{6, 0}, Far: []int{5, 0}, Strikes: hits(0, 1, 1, 0)}
	if !sameTicked(got, want) {
		t.Errorf("Tick is %v, not %v", got, want)
	}
	got = impl.Tick(n, lies, fleet(stands), []int{impl.MaxFar})
	want = impl.Ticked{Ok: true, Trains: fleet(stands), Codes: []int{6}, Far: []int{0}}
	if !sameTicked(got, want) {
		t.Errorf("from the joint, Tick is %v, not %v", got, want)
	}
}

func TestTickWithNoTrains(t *testing.T) {
	for _, n := range []impl.Net{yard(), balloon(), circle(1), ring(100)} {
		for _, trains := range [][]impl.Train{nil, {}} {
			if got := impl.Tick(n, liesOf(n, 1), trains, nil); !sameTicked(got, impl.Ticked{Ok: true}) {
				t.Errorf("Tick is %v", got)
			}
		}
	}
}

// aRow is so many trains of 10 on a circle with room for each to stand 90 behind the one ahead: the number of each is its place.
func aRow(count int) (impl.Net, []impl.Train, []int) {
	var trains []impl.Train
	for i := range count {
		trains = append(trains, train(spot(0, 50+100*i, 1), 10))
	}
	return circle(100 * count), trains, slices.Repeat([]int{90}, count)
}

// The hindmost moves first: each runs into the one ahead, that has not moved yet, and the last finds the first gone.
func TestTickWithTheMostTrains(t *testing.T) {
	if impl.MaxTrains != 20 {
		t.Error("MaxTrains")
	}
	for _, count := range []int{2, 19, 20} {
		n, trains, speeds := aRow(count)
		var want []impl.Strike
		for i := 1; i < count; i++ {
			want = append(want, impl.Strike{By: i - 1, Of: i})
		}
		got := impl.Tick(n, []int{0}, trains, speeds)
		wantAsMoves(t, "a row", scene{n, []int{0}, trains, speeds}, got)
		if !slices.Equal(got.Strikes, want) {
			t.Errorf("%d: strikes are %v, not %v", count, got.Strikes, want)
		}
		slices.Reverse(trains)
		got = impl.Tick(n, []int{0}, trains, speeds)
		wantAsMoves(t, "the foremost first", scene{n, []int{0}, trains, speeds}, got)
		if !slices.Equal(got.Strikes, hits(0, count-1)) {
			t.Errorf("%d, the foremost first: strikes are %v", count, got.Strikes)
		}
	}
}

// All in one place, as many as there may be: each strikes each.
func TestTheMostStrikes(t *testing.T) {
	trains := slices.Repeat(fleet(train(spot(pa, 70, 1), 30)), impl.MaxTrains)
	var want []impl.Strike
	for by := range trains {
		for of := range trains {
			if by != of {
				want = append(want, impl.Strike{By: by, Of: of})
			}
		}
	}
	got := impl.Tick(yard(), yardLies(1), trains, make([]int, len(trains)))
	if !got.Ok || !slices.Equal(got.Strikes, want) {
		t.Errorf("Tick is %v", got)
	}
}

func TestTheFarthestTick(t *testing.T) {
	x := train(spot(0, 1, 1), 5, slices.Repeat([]impl.Step{step(0, 1)}, 4)...)
	trains := slices.Repeat(fleet(x), impl.MaxTrains)
	got := impl.Tick(circle(1), []int{0}, trains, slices.Repeat([]int{impl.MaxFar}, impl.MaxTrains))
	if !got.Ok || len(got.Strikes) != 20*19 || got.Far[19] != 10000 || got.Codes[19] != 0 || !sameTrain(got.Trains[19], x) {
		t.Errorf("Tick is %v", got)
	}
	far := train(spot(0, 9999000, 1), 100000)
	ahead := train(spot(0, 9100, 1), 100)
	for at, want := range map[int][]impl.Strike{9100: hits(0, 1, 1, 0), 9101: nil} {
		ahead.Front.At = at
		got = impl.Tick(circle(impl.MaxLen), []int{0}, fleet(far, ahead), []int{10000, 0})
		if !got.Ok || !slices.Equal(got.Strikes, want) {
			t.Errorf("%d: Tick is %v", at, got)
		}
	}
}

func wantNoTick(t *testing.T, what string, got impl.Ticked) {
	t.Helper()
	if !sameTicked(got, impl.Ticked{}) {
		t.Errorf("%s: Tick is %v", what, got)
	}
}

func TestTickWrongNetsAndLies(t *testing.T) {
	y := yard()
	a, b := train(spot(pa, 70, 1), 30), train(spot(pa, 20, 1), 10)
	if !impl.Tick(y, yardLies(1), fleet(a, b), []int{5, 5}).Ok {
		t.Error("as it is")
	}
	for _, lies := range [][]int{nil, {}, {0, 0, 1}, {0, 0, 1, 0, 0}, {0, 0, 3, 0}, {0, 0, -1, 0}, {1, 0, 1, 0}, {0, 2, 1, 0}, {0, 0, 1, 1}, {0, 0, math.MaxInt, 0}, {math.MinInt, 0, 1, 0}} {
		wantNoTick(t, "lies", impl.Tick(y, lies, fleet(a, b), []int{5, 5}))
		wantNoTick(t, "lies, nothing moves", impl.Tick(y, lies, fleet(a), []int{0}))
		wantNoTick(t, "lies, no trains", impl.Tick(y, lies, nil, nil))
	}
	for _, n := range wrongYards() {
		for _, lies := range [][]int{yardLies(1), make([]int, len(n.Joints))} {
			wantNoTick(t, "a net that is not right", impl.Tick(n, lies, fleet(a, b), []int{5, 5}))
			wantNoTick(t, "a net that is not right, no trains", impl.Tick(n, lies, nil, nil))
		}
	}
}

func TestTickWrongTrains(t *testing.T) {
	n, trains, speeds := aRow(21)
	wantNoTick(t, "21 trains", impl.Tick(n, []int{0}, trains, speeds))
	wantNoTick(t, "21 trains, 20 speeds", impl.Tick(n, []int{0}, trains, speeds[:20]))
	wantNoTick(t, "10000 trains", impl.Tick(n, []int{0}, slices.Repeat(trains[:1], 10000), make([]int, 10000)))
	if !impl.Tick(n, []int{0}, trains[:20], speeds[:20]).Ok {
		t.Error("20 trains of the same row")
	}
	for i := range 20 {
		for _, no := range append(oddTrains()[:30], train(spot(0, 70, 1), 30, step(0, 1)), train(spot(0, 70, 1), 71), train(spot(0, 2101, 1), 10)) {
			if impl.TrainOk(n, no) {
				continue
			}
			with := slices.Clone(trains[:20])
			with[i] = no
			wantNoTick(t, "one is none", impl.Tick(n, []int{0}, with, speeds[:20]))
			wantNoTick(t, "one is none, nothing moves", impl.Tick(n, []int{0}, with, make([]int, 20)))
		}
	}
}

func TestTickWrongSpeeds(t *testing.T) {
	n, trains, _ := aRow(3)
	for count := range 6 {
		got := impl.Tick(n, []int{0}, trains, make([]int, count))
		if count == 3 && !got.Ok {
			t.Errorf("3 speeds: %v", got)
		} else if count != 3 {
			wantNoTick(t, "not as many speeds", got)
		}
	}
	wantNoTick(t, "a speed and no train", impl.Tick(n, []int{0}, nil, []int{0}))
	wantNoTick(t, "10000 speeds", impl.Tick(n, []int{0}, trains, make([]int, 10000)))
	for i := range trains {
		for _, speed := range []int{math.MinInt, math.MinInt + 1, -10001, -10000, -1, 10001, 10002, 1 << 40, math.MaxInt - 1, math.MaxInt} {
			speeds := []int{0, 10000, 5}
			speeds[i] = speed
			wantNoTick(t, "a speed", impl.Tick(n, []int{0}, trains, speeds))
		}
		for _, speed := range []int{0, 1, 9999, 10000} {
			speeds := []int{0, 10000, 5}
			speeds[i] = speed
			if got := impl.Tick(n, []int{0}, trains, speeds); !got.Ok || got.Far[i] != speed {
				t.Errorf("speed %d: %v", speed, got)
			}
		}
	}
}

func TestTicksAgainstTheModel(t *testing.T) {
	seen := map[string]int{}
	for i, s := range scenes(41, 8000) {
		got, want := impl.Tick(s.net, s.lies, s.trains, s.speeds), modelTick(s.net, s.lies, s.trains, s.speeds)
		if !sameTicked(got, want) {
			t.Fatalf("scene %d, %v: Tick is %v, not %v", i, s, got, want)
		}
		wantAsMoves(t, "a scene", s, got)
		for k, code := range got.Codes {
			seen["code "+string(rune('0'+code))]++
			seen["over one piece twice"] += number(overSomePieceTwice(got.Trains[k]))
		}
		for _, x := range got.Strikes {
			meet := impl.Meet(s.net, got.Trains[x.By], got.Trains[x.Of])
			seen["strikes"]++
			seen["only driven over, or driven off"] += number(!meet)
			seen["of one that has not moved yet"] += number(x.By < x.Of)
			seen["one alone"] += number(!slices.Contains(got.Strikes, impl.Strike{By: x.Of, Of: x.By}))
		}
		seen["no strikes"] += number(len(got.Strikes) == 0 && len(s.trains) > 1)
	}
	for _, what := range []string{"code 0", "code 1", "code 2", "code 3", "code 4", "over one piece twice", "strikes", "only driven over, or driven off", "of one that has not moved yet", "one alone", "no strikes"} {
		if seen[what] < 300 {
			t.Errorf("only %d: %s", seen[what], what)
		}
	}
}

// P8, by Meet alone: the later of two that meet struck the other, as that had come to its place already.
func TestWhoMeetsBehindATickHasStruck(t *testing.T) {
	meetings, apart := 0, 0
	for i, s := range scenes(43, 6000) {
		got := impl.Tick(s.net, s.lies, s.trains, s.speeds)
		for b := range got.Trains {
			for a := range b {
				if !impl.Meet(s.net, got.Trains[a], got.Trains[b]) {
					apart++
					continue
				}
				meetings++
				if !slices.Contains(got.Strikes, impl.Strike{By: a, Of: b}) && !slices.Contains(got.Strikes, impl.Strike{By: b, Of: a}) {
					t.Fatalf("scene %d, %v: %d and %d meet, but neither struck: %v", i, s, a, b, got)
				}
			}
		}
	}
	if meetings < 3000 || apart < 3000 {
		t.Errorf("%d meetings, %d apart", meetings, apart)
	}
}

// Strikes stand in order, none twice, and nobody strikes itself.
func TestStrikesInOrder(t *testing.T) {
	for i, s := range scenes(47, 4000) {
		last := -1
		for _, x := range impl.Tick(s.net, s.lies, s.trains, s.speeds).Strikes {
			rank := x.By*impl.MaxTrains + x.Of
			if x.By == x.Of || rank <= last || x.Of < 0 || x.Of >= len(s.trains) {
				t.Fatalf("scene %d, %v: %v", i, s, x)
			}
			last = rank
		}
	}
}
