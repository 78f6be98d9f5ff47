package tests

import (
	"math"
	"slices"
	"testing"

	"loop.example/footplate/impl"
)

// The pieces of yard.
const (
	pa = iota
	pb
	pc
	pd
	pe
)

// yard is rightNet, each piece as long as no other: buffer - a 100 - b 60 - w (left c 40, right d 30); the crossing leads from c to end 0 of e 50, and from d to its end 1.
func yard() impl.Net {
	n := rightNet()
	for p, long := range []int{pa: 100, pb: 60, pc: 40, pd: 30, pe: 50} {
		n.Pieces[p].Len = long
	}
	return n
}

// balloon: buffer - a 100 - switch, whose left and right end are those of b 60.
func balloon() impl.Net {
	n := impl.Net{
		Pieces: []impl.Piece{piece("a"), piece("b")},
		Joints: []impl.Joint{
			joint(impl.JSwitch, "w", end(pa, 1), end(pb, 0), end(pb, 1)),
			joint(impl.JEnd, "", end(pa, 0)),
		},
	}
	n.Pieces[pb].Len = 60
	return n
}

// circle is a ring of one piece.
func circle(long int) impl.Net {
	n := ring(1)
	n.Pieces[0].Len = long
	return n
}

// yardLies: no joint of yard but one is a switch.
func yardLies(lie int) []int { return []int{atSwitch: lie, atCross: 0} }

func spot(piece, at, way int) impl.Spot { return impl.Spot{Piece: piece, At: at, Way: way} }

func step(piece, way int) impl.Step { return impl.Step{Piece: piece, Way: way} }

func part(piece, from, to int) impl.Part { return impl.Part{Piece: piece, From: from, To: to} }

func train(front impl.Spot, long int, back ...impl.Step) impl.Train {
	return impl.Train{Front: front, Long: long, Back: back}
}

// laid is a train and what is to be told of it. Lie is how the switch below it lies: 0 where none is, either where it would have to lie both ways.
type laid struct {
	what   string
	net    impl.Net
	lie    int
	train  impl.Train
	body   []impl.Part
	tail   impl.Spot
	turned impl.Train
}

const either = -1

func onOnePiece() []laid {
	y := yard()
	return []laid{
		{"looking to end 1", y, 0, train(spot(pa, 70, 1), 30), []impl.Part{part(pa, 40, 70)}, spot(pa, 40, 1), train(spot(pa, 40, -1), 30)},
		{"looking to end 0", y, 0, train(spot(pa, 20, -1), 30), []impl.Part{part(pa, 20, 50)}, spot(pa, 50, -1), train(spot(pa, 50, 1), 30)},
		{"a whole piece", y, 0, train(spot(pa, 100, 1), 100), []impl.Part{part(pa, 0, 100)}, spot(pa, 0, 1), train(spot(pa, 0, -1), 100)},
		{"a whole piece, to end 0", y, 0, train(spot(pb, 0, -1), 60), []impl.Part{part(pb, 0, 60)}, spot(pb, 60, -1), train(spot(pb, 60, 1), 60)},
		{"the tail at a buffer", y, 0, train(spot(pa, 30, 1), 30), []impl.Part{part(pa, 0, 30)}, spot(pa, 0, 1), train(spot(pa, 0, -1), 30)},
		{"the tail one from a buffer", y, 0, train(spot(pa, 30, 1), 29), []impl.Part{part(pa, 1, 30)}, spot(pa, 1, 1), train(spot(pa, 1, -1), 29)},
		{"the tail at a plain joint", y, 0, train(spot(pb, 30, 1), 30), []impl.Part{part(pb, 0, 30)}, spot(pb, 0, 1), train(spot(pb, 0, -1), 30)},
		{"the tail at a switch", y, 0, train(spot(pb, 30, -1), 30), []impl.Part{part(pb, 30, 60)}, spot(pb, 60, -1), train(spot(pb, 60, 1), 30)},
		{"the tail one from a switch", y, 0, train(spot(pb, 30, -1), 29), []impl.Part{part(pb, 30, 59)}, spot(pb, 59, -1), train(spot(pb, 59, 1), 29)},
		{"the front at the end ahead", y, 0, train(spot(pc, 40, 1), 7), []impl.Part{part(pc, 33, 40)}, spot(pc, 33, 1), train(spot(pc, 33, -1), 7)},
		{"of length 1", y, 0, train(spot(pe, 1, 1), 1), []impl.Part{part(pe, 0, 1)}, spot(pe, 0, 1), train(spot(pe, 0, -1), 1)},
	}
}

func overPieces() []laid {
	y := yard()
	return []laid{
		{"one on the piece behind", y, 0, train(spot(pb, 30, 1), 31, step(pa, 1)), []impl.Part{part(pb, 0, 30), part(pa, 99, 100)}, spot(pa, 99, 1), train(spot(pa, 99, -1), 31, step(pb, -1))},
		{"all of the piece behind", y, 0, train(spot(pb, 30, 1), 130, step(pa, 1)), []impl.Part{part(pb, 0, 30), part(pa, 0, 100)}, spot(pa, 0, 1), train(spot(pa, 0, -1), 130, step(pb, -1))},
		{"over a plain joint to end 0", y, 0, train(spot(pa, 90, -1), 25, step(pb, -1)), []impl.Part{part(pa, 90, 100), part(pb, 0, 15)}, spot(pb, 15, -1), train(spot(pb, 15, 1), 25, step(pa, 1))},
		{"into the left branch", y, 1, train(spot(pc, 10, 1), 75, step(pb, 1), step(pa, 1)), []impl.Part{part(pc, 0, 10), part(pb, 0, 60), part(pa, 95, 100)}, spot(pa, 95, 1), train(spot(pa, 95, -1), 75, step(pb, -1), step(pc, -1))},
		{"into the right branch", y, 2, train(spot(pd, 10, 1), 75, step(pb, 1), step(pa, 1)), []impl.Part{part(pd, 0, 10), part(pb, 0, 60), part(pa, 95, 100)}, spot(pa, 95, 1), train(spot(pa, 95, -1), 75, step(pb, -1), step(pd, -1))},
		{"out of the left branch", y, 1, train(spot(pb, 50, -1), 15, step(pc, -1)), []impl.Part{part(pb, 50, 60), part(pc, 0, 5)}, spot(pc, 5, -1), train(spot(pc, 5, 1), 15, step(pb, 1))},
		{"out of the right branch", y, 2, train(spot(pb, 50, -1), 15, step(pd, -1)), []impl.Part{part(pb, 50, 60), part(pd, 0, 5)}, spot(pd, 5, -1), train(spot(pd, 5, 1), 15, step(pb, 1))},
		{"from the first of a crossing", y, 0, train(spot(pe, 10, 1), 30, step(pc, 1)), []impl.Part{part(pe, 0, 10), part(pc, 20, 40)}, spot(pc, 20, 1), train(spot(pc, 20, -1), 30, step(pe, -1))},
		{"from the second", y, 0, train(spot(pc, 35, -1), 20, step(pe, -1)), []impl.Part{part(pc, 35, 40), part(pe, 0, 15)}, spot(pe, 15, -1), train(spot(pe, 15, 1), 20, step(pc, 1))},
		{"from the third", y, 0, train(spot(pe, 40, -1), 30, step(pd, 1)), []impl.Part{part(pe, 40, 50), part(pd, 10, 30)}, spot(pd, 10, 1), train(spot(pd, 10, -1), 30, step(pe, 1))},
		{"from the fourth", y, 0, train(spot(pd, 25, -1), 20, step(pe, 1)), []impl.Part{part(pd, 25, 30), part(pe, 35, 50)}, spot(pe, 35, 1), train(spot(pe, 35, -1), 20, step(pd, 1))},
		{"the tail at a joint, to end 0", y, 0, train(spot(pc, 30, -1), 60, step(pe, -1)), []impl.Part{part(pc, 30, 40), part(pe, 0, 50)}, spot(pe, 50, -1), train(spot(pe, 50, 1), 60, step(pc, 1))},
		{"the tail at a joint behind two", y, 1, train(spot(pc, 10, 1), 70, step(pb, 1)), []impl.Part{part(pc, 0, 10), part(pb, 0, 60)}, spot(pb, 0, 1), train(spot(pb, 0, -1), 70, step(pc, -1))},
		{"the tail one behind that joint", y, 1, train(spot(pc, 10, 1), 71, step(pb, 1), step(pa, 1)), []impl.Part{part(pc, 0, 10), part(pb, 0, 60), part(pa, 99, 100)}, spot(pa, 99, 1), train(spot(pa, 99, -1), 71, step(pb, -1), step(pc, -1))},
		{"as long as there is track", y, 1, train(spot(pc, 10, 1), 170, step(pb, 1), step(pa, 1)), []impl.Part{part(pc, 0, 10), part(pb, 0, 60), part(pa, 0, 100)}, spot(pa, 0, 1), train(spot(pa, 0, -1), 170, step(pb, -1), step(pc, -1))},
	}
}

func frontsAtJoints() []laid {
	y := yard()
	return []laid{
		{"the front at the end behind it", y, 0, train(spot(pb, 0, 1), 20, step(pa, 1)), []impl.Part{part(pa, 80, 100)}, spot(pa, 80, 1), train(spot(pa, 80, -1), 20)},
		{"and looks to end 0", y, 0, train(spot(pa, 100, -1), 20, step(pb, -1)), []impl.Part{part(pb, 0, 20)}, spot(pb, 20, -1), train(spot(pb, 20, 1), 20)},
		{"and the tail at a joint", y, 1, train(spot(pc, 0, 1), 60, step(pb, 1)), []impl.Part{part(pb, 0, 60)}, spot(pb, 0, 1), train(spot(pb, 0, -1), 60)},
		{"and the tail at a joint, to end 0", y, 0, train(spot(pc, 40, -1), 50, step(pe, -1)), []impl.Part{part(pe, 0, 50)}, spot(pe, 50, -1), train(spot(pe, 50, 1), 50)},
		{"and three pieces behind", y, 1, train(spot(pe, 0, 1), 120, step(pc, 1), step(pb, 1), step(pa, 1)), []impl.Part{part(pc, 0, 40), part(pb, 0, 60), part(pa, 80, 100)}, spot(pa, 80, 1), train(spot(pa, 80, -1), 120, step(pb, -1), step(pc, -1))},
	}
}

func overOneTwice() []laid {
	y := yard()
	long := impl.Train{Front: spot(0, 1, 1), Long: 201, Back: slices.Repeat([]impl.Step{step(0, 1)}, 200)}
	back := impl.Train{Front: spot(0, 0, -1), Long: 201, Back: slices.Repeat([]impl.Step{step(0, -1)}, 200)}
	return []laid{
		{"round and out again", y, either, train(spot(pb, 15, -1), 200, step(pc, -1), step(pe, -1), step(pd, 1), step(pb, 1)), []impl.Part{part(pb, 15, 60), part(pc, 0, 40), part(pe, 0, 50), part(pd, 0, 30), part(pb, 25, 60)}, spot(pb, 25, 1), train(spot(pb, 25, -1), 200, step(pd, -1), step(pe, 1), step(pc, 1), step(pb, 1))},
		{"the other way round", y, either, train(spot(pb, 15, -1), 225, step(pd, -1), step(pe, 1), step(pc, 1), step(pb, 1)), []impl.Part{part(pb, 15, 60), part(pd, 0, 30), part(pe, 0, 50), part(pc, 0, 40), part(pb, 0, 60)}, spot(pb, 0, 1), train(spot(pb, 0, -1), 225, step(pc, -1), step(pe, -1), step(pd, 1), step(pb, 1))},
		{"over a balloon", balloon(), either, train(spot(pa, 90, -1), 90, step(pb, -1), step(pa, 1)), []impl.Part{part(pa, 90, 100), part(pb, 0, 60), part(pa, 80, 100)}, spot(pa, 80, 1), train(spot(pa, 80, -1), 90, step(pb, 1), step(pa, 1))},
		{"once round", circle(100), 0, train(spot(0, 50, 1), 120, step(0, 1)), []impl.Part{part(0, 0, 50), part(0, 30, 100)}, spot(0, 30, 1), train(spot(0, 30, -1), 120, step(0, -1))},
		{"twice round, the tail at the joint", circle(100), 0, train(spot(0, 50, 1), 250, step(0, 1), step(0, 1)), []impl.Part{part(0, 0, 50), part(0, 0, 100), part(0, 0, 100)}, spot(0, 0, 1), train(spot(0, 0, -1), 250, step(0, -1), step(0, -1))},
		{"twice round, the front at the joint", circle(100), 0, train(spot(0, 0, 1), 250, step(0, 1), step(0, 1), step(0, 1)), []impl.Part{part(0, 0, 100), part(0, 0, 100), part(0, 50, 100)}, spot(0, 50, 1), train(spot(0, 50, -1), 250, step(0, -1), step(0, -1))},
		{"as often as Back has room", circle(1), 0, long, slices.Repeat([]impl.Part{part(0, 0, 1)}, 201), spot(0, 0, 1), back},
	}
}

func allLaid() []laid {
	return slices.Concat(onOnePiece(), overPieces(), frontsAtJoints(), overOneTwice())
}

func TestTrainsAsLaid(t *testing.T) {
	for _, l := range allLaid() {
		if !impl.TrainOk(l.net, l.train) {
			t.Errorf("%s: TrainOk is false", l.what)
		}
		if got := impl.Body(l.net, l.train); !slices.Equal(got, l.body) {
			t.Errorf("%s: Body is %v, not %v", l.what, got, l.body)
		}
		if got := impl.Tail(l.net, l.train); got != l.tail {
			t.Errorf("%s: Tail is %v, not %v", l.what, got, l.tail)
		}
		if got := impl.Turned(l.net, l.train); !sameTrain(got, l.turned) {
			t.Errorf("%s: Turned is %v, not %v", l.what, got, l.turned)
		}
		if !impl.TrainOk(l.net, l.turned) {
			t.Errorf("%s: TrainOk is false when turned", l.what)
		}
		if !impl.Meet(l.net, l.train, l.train) || !impl.Meet(l.net, l.train, l.turned) {
			t.Errorf("%s: it does not meet itself", l.what)
		}
	}
}

// liesOf: the first switch of a net lies so.
func liesOf(n impl.Net, lie int) []int {
	lies := make([]int, len(n.Joints))
	for j, x := range n.Joints {
		if x.Kind == impl.JSwitch {
			lies[j] = lie
			break
		}
	}
	return lies
}

func TestPlaceAndSitsAsLaid(t *testing.T) {
	for _, l := range allLaid() {
		for lie := range 3 {
			want := l.lie == 0 || l.lie == lie
			lies := liesOf(l.net, lie)
			if impl.Sits(l.net, lies, l.train) != want {
				t.Errorf("%s: Sits is not %v when the switch lies %d", l.what, want, lie)
			}
			wantTurned := want || len(l.turned.Back) == 0
			if impl.Sits(l.net, lies, l.turned) != wantTurned {
				t.Errorf("%s: Sits is not %v turned when the switch lies %d", l.what, wantTurned, lie)
			}
			got := impl.Place(l.net, lies, l.train.Front, l.train.Long)
			if want && (!got.Ok || !sameTrain(got.Train, l.train)) {
				t.Errorf("%s: Place is %v, not %v, when the switch lies %d", l.what, got, l.train, lie)
			}
			if got.Ok && !want && sameTrain(got.Train, l.train) {
				t.Errorf("%s: Place lies otherwise than the switch, %d", l.what, lie)
			}
		}
	}
}

// A train whose front is just behind a switch lies over it; turned, it ends ahead of it.
func TestSwitchAtTheFront(t *testing.T) {
	y := yard()
	x := train(spot(pc, 0, 1), 20, step(pb, 1))
	for lie := range 3 {
		if impl.Sits(y, yardLies(lie), x) != (lie == 1) {
			t.Errorf("the front behind a switch that lies %d", lie)
		}
		if !impl.Sits(y, yardLies(lie), impl.Turned(y, x)) {
			t.Errorf("turned, the tail ahead of a switch that lies %d", lie)
		}
	}
}

// No switch and crossing leads otherwise than told: of all pairs of pieces and ways, these lead from the first to the second.
func TestWhereJointsLead(t *testing.T) {
	y := yard()
	leads := map[[2]impl.Step]bool{
		{step(pa, 1), step(pb, 1)}: true, {step(pb, -1), step(pa, -1)}: true,
		{step(pb, 1), step(pc, 1)}: true, {step(pc, -1), step(pb, -1)}: true,
		{step(pb, 1), step(pd, 1)}: true, {step(pd, -1), step(pb, -1)}: true,
		{step(pc, 1), step(pe, 1)}: true, {step(pe, -1), step(pc, -1)}: true,
		{step(pd, 1), step(pe, -1)}: true, {step(pe, 1), step(pd, -1)}: true,
	}
	for front := range y.Pieces {
		for back := range y.Pieces {
			for _, way := range []int{1, -1} {
				for _, behind := range []int{1, -1} {
					at := map[int]int{1: 10, -1: y.Pieces[front].Len - 10}[way]
					x := train(spot(front, at, way), 15, step(back, behind))
					want := leads[[2]impl.Step{step(back, behind), step(front, way)}]
					if impl.TrainOk(y, x) != want {
						t.Errorf("from %v to %v: not %v", x.Back[0], x.Front, want)
					}
				}
			}
		}
	}
}

func wantNoTrain(t *testing.T, what string, n impl.Net, x impl.Train) {
	t.Helper()
	if impl.TrainOk(n, x) {
		t.Errorf("%s: TrainOk is true for %v", what, x)
	}
	if got := impl.Body(n, x); len(got) != 0 {
		t.Errorf("%s: Body is %v", what, got)
	}
	if got := impl.Tail(n, x); got != (impl.Spot{}) {
		t.Errorf("%s: Tail is %v", what, got)
	}
	if got := impl.Turned(n, x); !isNone(got) {
		t.Errorf("%s: Turned is %v", what, got)
	}
	for lie := range 3 {
		if impl.Sits(n, liesOf(n, lie), x) {
			t.Errorf("%s: Sits is true", what)
		}
	}
	if impl.Meet(n, x, x) {
		t.Errorf("%s: it meets itself", what)
	}
}

func wantTrain(t *testing.T, what string, n impl.Net, x impl.Train) {
	t.Helper()
	if !impl.TrainOk(n, x) {
		t.Errorf("%s: TrainOk is false for %v", what, x)
	}
}

// Where each number is the one thing wrong: without a look at it, the rest would do.
func TestFrontsThatAreNoSpots(t *testing.T) {
	y := yard()
	wantTrain(t, "At 0", y, train(spot(pc, 0, -1), 40))
	wantTrain(t, "At 0 to end 1", y, train(spot(pc, 0, 1), 5, step(pb, 1)))
	wantTrain(t, "At Len", y, train(spot(pc, 40, 1), 40))
	wantTrain(t, "At Len to end 0", y, train(spot(pc, 40, -1), 5, step(pe, -1)))
	wantNoTrain(t, "At -1", y, train(spot(pc, -1, -1), 41))
	wantNoTrain(t, "At -1, short", y, train(spot(pc, -1, -1), 5))
	wantNoTrain(t, "At -1 to end 1", y, train(spot(pc, -1, 1), 5, step(pb, 1)))
	wantNoTrain(t, "At Len + 1", y, train(spot(pc, 41, 1), 41))
	wantNoTrain(t, "At Len + 1, short", y, train(spot(pc, 41, 1), 5))
	wantNoTrain(t, "At Len + 1 to end 0", y, train(spot(pc, 41, -1), 5, step(pe, -1)))
	far := []int{math.MinInt, math.MinInt + 1, -1000, -5, 1000, math.MaxInt - 1, math.MaxInt}
	for _, at := range far {
		for _, way := range []int{1, -1} {
			wantNoTrain(t, "At", y, train(spot(pc, at, way), 5))
			wantNoTrain(t, "At", y, train(spot(pc, at, way), 5, step(pb, 1)))
			wantNoTrain(t, "At", y, train(spot(pc, at, way), 5, step(pe, -1)))
		}
	}
	for _, p := range append(far, -2, -1, 5, 6, 100) {
		wantNoTrain(t, "Piece", y, train(spot(p, 20, 1), 5))
		wantNoTrain(t, "Piece", y, train(spot(p, 0, 1), 5, step(pb, 1)))
		wantNoTrain(t, "Piece", y, train(spot(p, 0, -1), 5, step(pb, -1)))
	}
	for _, way := range append(far, -3, -2, 0, 2, 3) {
		wantNoTrain(t, "Way", y, train(spot(pc, 20, way), 5))
		wantNoTrain(t, "Way", y, train(spot(pc, 20, way), 25, step(pb, 1)))
		wantNoTrain(t, "Way", y, train(spot(pc, 20, way), 25, step(pe, -1)))
	}
}

func TestLengthsOfTrains(t *testing.T) {
	if impl.MaxLong != 100000 {
		t.Error("MaxLong")
	}
	n := circle(impl.MaxLen)
	for _, way := range []int{1, -1} {
		for _, long := range []int{1, 2, 99999, 100000} {
			wantTrain(t, "Long", n, train(spot(0, 5000000, way), long))
		}
		for _, long := range []int{math.MinInt, -100000, -1, 0, 100001, 5000000, math.MaxInt} {
			wantNoTrain(t, "Long", n, train(spot(0, 5000000, way), long))
			wantNoTrain(t, "Long", n, train(spot(0, 0, 1), long))
			wantNoTrain(t, "Long", n, train(spot(0, 0, way), long, step(0, way)))
		}
	}
	most := train(spot(0, 50, 1), 100000, slices.Repeat([]impl.Step{step(0, 1)}, 100)...)
	wantTrain(t, "the most over many", circle(1000), most)
	most.Long++
	wantNoTrain(t, "one more than the most over many", circle(1000), most)
}

func TestCountOfSteps(t *testing.T) {
	for _, count := range []int{1, 2, 199, 200} {
		wantTrain(t, "steps", circle(1), train(spot(0, 0, 1), count, slices.Repeat([]impl.Step{step(0, 1)}, count)...))
		wantTrain(t, "steps to end 0", circle(1), train(spot(0, 0, -1), count+1, slices.Repeat([]impl.Step{step(0, -1)}, count)...))
	}
	for _, count := range []int{201, 202, 400, 100000} {
		wantNoTrain(t, "steps", circle(1), train(spot(0, 0, 1), count, slices.Repeat([]impl.Step{step(0, 1)}, count)...))
		wantNoTrain(t, "steps to end 0", circle(1), train(spot(0, 0, -1), count+1, slices.Repeat([]impl.Step{step(0, -1)}, count)...))
	}
	wantNoTrain(t, "a step that it does not need, behind the most", circle(1), train(spot(0, 0, 1), 200, slices.Repeat([]impl.Step{step(0, 1)}, 201)...))
	n := ring(impl.MaxPieces)
	x := impl.Train{Front: spot(0, 0, 1), Long: 20000}
	for i := range 200 {
		x.Back = append(x.Back, step((299-i)%100, 1))
	}
	wantTrain(t, "twice round a hundred pieces", n, x)
	x.Long++
	wantNoTrain(t, "one more", n, x)
	x.Back = append(x.Back, step(99, 1))
	wantNoTrain(t, "one more, with a step for it", n, x)
}

func intoLeft() impl.Train {
	return train(spot(pe, 10, 1), 115, step(pc, 1), step(pb, 1), step(pa, 1))
}

func TestStepsThatAreNone(t *testing.T) {
	y := yard()
	wantTrain(t, "as it is", y, intoLeft())
	for i := range intoLeft().Back {
		for _, p := range []int{math.MinInt, -1, 5, 6, 100, math.MaxInt} {
			x := intoLeft()
			x.Back[i].Piece = p
			wantNoTrain(t, "a step's Piece", y, x)
		}
		for _, w := range []int{math.MinInt, -2, -1, 0, 2, 3, math.MaxInt} {
			x := intoLeft()
			x.Back[i].Way = w
			wantNoTrain(t, "a step's Way", y, x)
		}
		for p := range y.Pieces {
			x := intoLeft()
			if x.Back[i].Piece != p {
				x.Back[i].Piece = p
				wantNoTrain(t, "another piece", y, x)
			}
		}
		x := intoLeft()
		x.Back = slices.Delete(x.Back, i, i+1)
		wantNoTrain(t, "a step left out", y, x)
		x = intoLeft()
		x.Back = slices.Insert(x.Back, i, x.Back[i])
		wantNoTrain(t, "a step twice", y, x)
	}
	wantNoTrain(t, "from branch to branch", y, train(spot(pc, 10, 1), 15, step(pd, -1)))
	wantNoTrain(t, "from branch to branch, the other way", y, train(spot(pd, 10, 1), 15, step(pc, -1)))
	wantNoTrain(t, "from branch to branch farther back", y, train(spot(pe, 10, 1), 55, step(pc, 1), step(pd, -1)))
	for p := range y.Pieces {
		for _, way := range []int{1, -1} {
			wantNoTrain(t, "over a buffer", y, train(spot(pa, 10, 1), 15, step(p, way)))
			wantNoTrain(t, "over a buffer farther back", y, train(spot(pb, 10, 1), 115, step(pa, 1), step(p, way)))
		}
	}
}

// Each train with the steps it needs; with one too few, and one too many.
func TestJustAsManySteps(t *testing.T) {
	y := yard()
	cases := []struct {
		front impl.Spot
		long  int
		need  int
		back  []impl.Step
	}{
		{spot(pb, 30, 1), 29, 0, []impl.Step{step(pa, 1)}},
		{spot(pb, 30, 1), 30, 0, []impl.Step{step(pa, 1)}},
		{spot(pb, 30, 1), 31, 1, []impl.Step{step(pa, 1)}},
		{spot(pb, 40, -1), 19, 0, []impl.Step{step(pc, -1)}},
		{spot(pb, 40, -1), 20, 0, []impl.Step{step(pd, -1)}},
		{spot(pb, 40, -1), 21, 1, []impl.Step{step(pd, -1), step(pe, 1)}},
		{spot(pb, 40, -1), 49, 1, []impl.Step{step(pd, -1), step(pe, 1)}},
		{spot(pb, 40, -1), 50, 1, []impl.Step{step(pd, -1), step(pe, 1)}},
		{spot(pb, 40, -1), 51, 2, []impl.Step{step(pd, -1), step(pe, 1), step(pc, 1)}},
		{spot(pc, 10, 1), 10, 0, []impl.Step{step(pb, 1), step(pa, 1)}},
		{spot(pc, 10, 1), 69, 1, []impl.Step{step(pb, 1), step(pa, 1)}},
		{spot(pc, 10, 1), 70, 1, []impl.Step{step(pb, 1), step(pa, 1)}},
		{spot(pc, 10, 1), 71, 2, []impl.Step{step(pb, 1), step(pa, 1)}},
		{spot(pc, 10, 1), 170, 2, []impl.Step{step(pb, 1), step(pa, 1)}},
		{spot(pc, 10, 1), 171, 3, []impl.Step{step(pb, 1), step(pa, 1)}},
		{spot(pb, 0, 1), 1, 1, []impl.Step{step(pa, 1)}},
		{spot(pb, 0, 1), 100, 1, []impl.Step{step(pa, 1)}},
		{spot(pb, 0, 1), 101, 2, []impl.Step{step(pa, 1)}},
		{spot(pa, 0, 1), 1, 1, nil},
		{spot(pa, 100, 1), 100, 0, nil},
		{spot(pa, 100, 1), 101, 1, nil},
		{spot(pe, 0, -1), 50, 0, []impl.Step{step(pd, 1)}},
		{spot(pe, 0, -1), 51, 1, []impl.Step{step(pd, 1)}},
		{spot(pe, 0, -1), 80, 1, []impl.Step{step(pd, 1), step(pb, 1)}},
		{spot(pe, 0, -1), 81, 2, []impl.Step{step(pd, 1), step(pb, 1)}},
	}
	for _, c := range cases {
		for count := range len(c.back) + 1 {
			x := train(c.front, c.long, c.back[:count]...)
			if count == c.need {
				wantTrain(t, "as many as it needs", y, x)
			} else {
				wantNoTrain(t, "not as many as it needs", y, x)
			}
		}
	}
}

// wrongYards: one net for each code of fault, each of which has all that the train of length 10 on piece 0 needs.
func wrongYards() []impl.Net {
	wrong := []impl.Net{{}, ring(impl.MaxPieces + 1)}
	for _, change := range []func(n *impl.Net){
		func(n *impl.Net) { n.Pieces[pd].Speed = 0 },
		func(n *impl.Net) { n.Pieces[pe].Name = "a" },
		func(n *impl.Net) { n.Joints[atBuffer].Kind = 9 },
		func(n *impl.Net) { n.Joints[atCross].Ends[0].Piece = -1 },
		func(n *impl.Net) { n.Joints[atCross].Ends = n.Joints[atCross].Ends[:2] },
		func(n *impl.Net) { n.Joints[atCross].Name = "w" },
		func(n *impl.Net) { n.Joints[atBuffer].Name = "q" },
		func(n *impl.Net) { n.Joints[atBuffer].Ends[0] = end(pe, 0) },
		func(n *impl.Net) { n.Joints = n.Joints[:atCross] },
		func(n *impl.Net) { n.Joints = nil },
	} {
		n := yard()
		change(&n)
		wrong = append(wrong, n)
	}
	return wrong
}

func TestTrainsOnWrongNets(t *testing.T) {
	for _, n := range wrongYards() {
		wantNoTrain(t, "on one piece", n, train(spot(pa, 50, 1), 10))
		wantNoTrain(t, "over two", n, train(spot(pb, 10, 1), 20, step(pa, 1)))
		if impl.Place(n, make([]int, len(n.Joints)), spot(pa, 50, 1), 10).Ok {
			t.Error("placed on a net that is not right")
		}
		if impl.Meet(n, train(spot(pa, 50, 1), 10), train(spot(pa, 45, 1), 10)) {
			t.Error("trains that meet on a net that is not right")
		}
	}
}

func TestPlaceOverJoints(t *testing.T) {
	y := yard()
	cases := []struct {
		what string
		lie  int
		at   impl.Spot
		room int
	}{
		{"to a buffer", 1, spot(pa, 10, 1), 10},
		{"to a buffer behind another piece", 0, spot(pb, 10, 1), 110},
		{"to a buffer over a switch left", 1, spot(pc, 10, 1), 170},
		{"to a buffer over a switch right", 2, spot(pd, 10, 1), 170},
		{"to a buffer over crossing and switch", 1, spot(pe, 5, 1), 205},
		{"to a buffer over crossing and switch right", 2, spot(pe, 45, -1), 195},
		{"at a buffer, no room at all", 0, spot(pa, 0, 1), 0},
		{"from the left end, not known", 0, spot(pc, 10, 1), 10},
		{"from the right end, not known", 0, spot(pd, 10, 1), 10},
		{"from the tip, not known", 0, spot(pb, 50, -1), 10},
		{"from the tip, not known, behind another piece", 0, spot(pa, 90, -1), 70},
		{"from the left end, lies right", 2, spot(pc, 10, 1), 10},
		{"from the right end, lies left", 1, spot(pd, 10, 1), 10},
		{"round to the end to which it does not lie", 1, spot(pb, 50, -1), 130},
		{"the other way round", 2, spot(pb, 50, -1), 130},
		{"round over the crossing", 2, spot(pe, 5, 1), 45},
		{"the other way over the crossing", 1, spot(pe, 45, -1), 35},
	}
	for _, c := range cases {
		for _, long := range []int{1, c.room - 1, c.room} {
			if long >= 1 && long <= c.room && !impl.Place(y, yardLies(c.lie), c.at, long).Ok {
				t.Errorf("%s: no room for %d", c.what, long)
			}
		}
		for _, long := range []int{c.room + 1, c.room + 2, c.room + 50, 100000} {
			if got := impl.Place(y, yardLies(c.lie), c.at, long); got.Ok {
				t.Errorf("%s: room for %d: %v", c.what, long, got)
			}
		}
	}
}

func TestPlaceWithTheMostSteps(t *testing.T) {
	cases := []struct {
		net  impl.Net
		at   impl.Spot
		room int
	}{
		{circle(1), spot(0, 0, 1), 200},
		{circle(1), spot(0, 1, 1), 201},
		{circle(1), spot(0, 1, -1), 200},
		{circle(1), spot(0, 0, -1), 201},
		{circle(7), spot(0, 3, 1), 1403},
		{ring(impl.MaxPieces), spot(40, 60, -1), 20040},
	}
	for _, c := range cases {
		lies := make([]int, len(c.net.Joints))
		got := impl.Place(c.net, lies, c.at, c.room)
		if !got.Ok || len(got.Train.Back) != 200 || !impl.TrainOk(c.net, got.Train) || !impl.Sits(c.net, lies, got.Train) {
			t.Errorf("the most steps from %v: %v", c.at, got.Ok)
		}
		if impl.Place(c.net, lies, c.at, c.room+1).Ok || impl.Place(c.net, lies, c.at, c.room+100).Ok {
			t.Errorf("more than the most steps from %v", c.at)
		}
	}
}

func TestPlaceWrongInputs(t *testing.T) {
	y := yard()
	far := []int{math.MinInt, math.MinInt + 1, -100000, math.MaxInt - 1, math.MaxInt}
	place := func(what string, want bool, lies []int, s impl.Spot, long int) {
		t.Helper()
		got := impl.Place(y, lies, s, long)
		if got.Ok != want {
			t.Errorf("%s: Place is %v", what, got)
		}
	}
	place("all right", true, yardLies(1), spot(pa, 50, 1), 10)
	for _, lies := range [][]int{nil, {}, {0, 0, 1}, {0, 0, 1, 0, 0}, {0, 0, 3, 0}, {0, 0, -1, 0}, {1, 0, 1, 0}, {0, 2, 1, 0}, {0, 0, 1, 1}} {
		place("lies", false, lies, spot(pa, 50, 1), 10)
		place("lies", false, lies, spot(pc, 10, 1), 20)
		if impl.Sits(y, lies, train(spot(pa, 50, 1), 10)) || impl.Sits(y, lies, train(spot(pc, 10, 1), 20, step(pb, 1))) {
			t.Errorf("it sits with lies %v", lies)
		}
	}
	for _, p := range append(far, -1, 5, 6, 100) {
		place("Piece", false, yardLies(1), spot(p, 20, 1), 5)
	}
	for _, way := range append(far, -2, 0, 2) {
		place("Way", false, yardLies(1), spot(pa, 50, way), 5)
		place("Way", false, yardLies(1), spot(pc, 10, way), 20)
	}
	for _, way := range []int{1, -1} {
		for _, at := range append(far, -2, -1, 41, 42) {
			place("At", false, yardLies(1), spot(pc, at, way), 5)
		}
		for _, long := range append(far, -1, 0, 100001) {
			place("long", false, yardLies(1), spot(pb, 30, way), long)
		}
	}
	place("At 0", true, yardLies(1), spot(pc, 0, 1), 5)
	place("At Len", true, yardLies(1), spot(pc, 40, -1), 5)
	n := circle(impl.MaxLen)
	for long, want := range map[int]bool{0: false, 1: true, 99999: true, 100000: true, 100001: false} {
		if impl.Place(n, []int{0}, spot(0, 7000000, 1), long).Ok != want || impl.Place(n, []int{0}, spot(0, 3000000, -1), long).Ok != want {
			t.Errorf("long %d: not %v", long, want)
		}
	}
}

func TestSits(t *testing.T) {
	y := yard()
	turned := impl.Turned(y, intoLeft())
	for lie := range 3 {
		for _, x := range []impl.Train{intoLeft(), turned} {
			if impl.Sits(y, yardLies(lie), x) != (lie == 1) {
				t.Errorf("into the left branch, when the switch lies %d", lie)
			}
		}
		if !impl.Sits(y, yardLies(lie), train(spot(pe, 10, 1), 50, step(pc, 1))) {
			t.Errorf("the tail just at a switch that lies %d", lie)
		}
	}
	if !impl.Sits(y, yardLies(0), train(spot(pb, 10, 1), 20, step(pa, 1))) {
		t.Error("the switch is ahead of the train")
	}
	// of two switches below the train each has to lie right, and one that is not below it may lie as it likes
	d := doubleNet()
	d.Joints[atBuffer] = joint(impl.JPlain, "", end(pa, 0), end(5, 0))
	d.Joints = slices.Delete(d.Joints, 4, 5)
	x := train(spot(pc, 10, 1), 420, step(pb, 1), step(pa, 1), step(5, -1), step(6, -1), step(8, -1))
	wantTrain(t, "over two switches", d, x)
	for one := range 3 {
		for other := range 3 {
			if impl.Sits(d, []int{0, 0, one, 0, 0, other, 0}, x) != (one == 1 && other == 2) {
				t.Errorf("switches that lie %d and %d", one, other)
			}
			if impl.Sits(d, []int{0, 0, one, 0, 0, other, 0}, train(x.Front, 220, x.Back[:3]...)) != (one == 1) {
				t.Errorf("over the first, switches that lie %d and %d", one, other)
			}
		}
	}
}

func TestMeet(t *testing.T) {
	y := yard()
	a := train(spot(pa, 70, 1), 30)
	cases := []struct {
		what string
		a, b impl.Train
		want bool
	}{
		{"tail to front, one place", a, train(spot(pa, 80, 1), 10), true},
		{"tail to front, no place", a, train(spot(pa, 81, 1), 10), false},
		{"front to front, one place", a, train(spot(pa, 70, -1), 10), true},
		{"front to front, no place", a, train(spot(pa, 71, -1), 10), false},
		{"tail to tail, one place", a, train(spot(pa, 30, -1), 10), true},
		{"tail to tail, no place", a, train(spot(pa, 29, -1), 10), false},
		{"behind, one place", a, train(spot(pa, 40, 1), 10), true},
		{"behind, no place", a, train(spot(pa, 39, 1), 10), false},
		{"within", a, train(spot(pa, 60, 1), 10), true},
		{"around", a, train(spot(pa, 90, 1), 80), true},
		{"the same places", a, train(spot(pa, 40, -1), 30), true},
		{"itself", a, a, true},
		{"on another piece, the same numbers", a, train(spot(pb, 50, 1), 20), false},
		{"on two sides of a joint", train(spot(pa, 100, 1), 10), train(spot(pb, 10, 1), 10), false},
		{"over the joint", train(spot(pa, 100, 1), 10), train(spot(pb, 10, 1), 11, step(pa, 1)), true},
		{"the last part of the other, one place", train(spot(pa, 95, 1), 10), intoLeft(), true},
		{"the last part of the other, no place", train(spot(pa, 94, 1), 10), intoLeft(), false},
		{"a part in the middle", train(spot(pc, 20, 1), 1), intoLeft(), true},
		{"the front's part, one place", train(spot(pe, 20, 1), 10), intoLeft(), true},
		{"the front's part, no place", train(spot(pe, 21, 1), 10), intoLeft(), false},
		{"on the branch beside", train(spot(pd, 20, 1), 20), intoLeft(), false},
		{"on both branches, over one tip", train(spot(pd, 20, 1), 21, step(pb, 1)), intoLeft(), true},
		{"on both ways of a crossing", train(spot(pe, 10, 1), 20, step(pc, 1)), train(spot(pe, 30, -1), 30, step(pd, 1)), false},
		{"an empty part of the front", train(spot(pc, 0, 1), 20, step(pb, 1)), train(spot(pc, 10, 1), 10), false},
		{"behind an empty part of the front", train(spot(pc, 0, 1), 20, step(pb, 1)), train(spot(pb, 40, 1), 10), true},
		{"over one twice, the second time", train(spot(pb, 15, -1), 226, step(pc, -1), step(pe, -1), step(pd, 1), step(pb, 1), step(pa, 1)), train(spot(pb, 10, 1), 5), true},
		{"over one twice, beside both", train(spot(pb, 15, -1), 200, step(pc, -1), step(pe, -1), step(pd, 1), step(pb, 1)), train(spot(pb, 14, 1), 5), false},
	}
	for _, c := range cases {
		if impl.Meet(y, c.a, c.b) != c.want || impl.Meet(y, c.b, c.a) != c.want {
			t.Errorf("%s: Meet is not %v", c.what, c.want)
		}
		if impl.Meet(y, impl.Turned(y, c.a), c.b) != c.want || impl.Meet(y, c.a, impl.Turned(y, c.b)) != c.want {
			t.Errorf("%s: Meet is not %v when one is turned", c.what, c.want)
		}
	}
}

func TestMeetWithWhatIsNoTrain(t *testing.T) {
	y := yard()
	a := train(spot(pa, 70, 1), 30)
	for _, no := range []impl.Train{
		{},
		train(spot(pa, 70, 1), 0),
		train(spot(pa, 70, 0), 30),
		train(spot(pa, 101, 1), 80),
		train(spot(pa, 70, 1), 71),
		train(spot(pa, 70, 1), 30, step(pb, 1)),
		train(spot(pb, 10, 1), 110, step(pa, -1)),
		train(spot(-1, 70, 1), 30),
		train(spot(pa, 70, 1), 100001),
	} {
		if impl.Meet(y, a, no) || impl.Meet(y, no, a) || impl.Meet(y, no, no) {
			t.Errorf("what is no train meets: %v", no)
		}
	}
}
