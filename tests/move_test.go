package tests

import (
	"math"
	"reflect"
	"slices"
	"testing"

	"loop.example/footplate/impl"
)

// moving is a train that moves, and what is to come of it. Lie is how the net's switch lies.
type moving struct {
	what  string
	net   impl.Net
	lie   int
	train impl.Train
	far   int
	want  impl.Moved
}

// came is a move that nothing ended.
func came(far int, x impl.Train, over ...impl.Part) impl.Moved {
	return impl.Moved{Far: far, Joint: -1, Train: x, Over: over}
}

// ended is a move that ended early.
func ended(code, joint, far int, x impl.Train, over ...impl.Part) impl.Moved {
	return impl.Moved{Code: code, Far: far, Joint: joint, Train: x, Over: over}
}

func movingNowhere() []moving {
	y := yard()
	behind := train(spot(pb, 0, 1), 20, step(pa, 1))
	return []moving{
		{"far 0", y, 0, train(spot(pa, 70, 1), 30), 0, came(0, train(spot(pa, 70, 1), 30))},
		{"far 0 at a plain joint", y, 0, train(spot(pa, 100, 1), 30), 0, came(0, train(spot(pa, 100, 1), 30))},
		{"far 0 behind a plain joint", y, 0, behind, 0, came(0, behind)},
		{"far 0 at a buffer", y, 0, train(spot(pa, 0, -1), 30), 0, came(0, train(spot(pa, 0, -1), 30))},
		{"far 0 at a switch with 0", y, 0, train(spot(pb, 60, 1), 30), 0, came(0, train(spot(pb, 60, 1), 30))},
		{"far 0 at a switch that lies otherwise", y, 1, train(spot(pd, 0, -1), 30), 0, came(0, train(spot(pd, 0, -1), 30))},
		{"far 0 over pieces", y, 1, intoLeft(), 0, came(0, intoLeft())},
	}
}

func movingOnOnePiece() []moving {
	y := yard()
	return []moving{
		{"by one", y, 0, train(spot(pa, 70, 1), 30), 1, came(1, train(spot(pa, 71, 1), 30), part(pa, 70, 71))},
		{"one less than to the end", y, 0, train(spot(pa, 70, 1), 30), 29, came(29, train(spot(pa, 99, 1), 30), part(pa, 70, 99))},
		{"just to the end", y, 0, train(spot(pa, 70, 1), 30), 30, came(30, train(spot(pa, 100, 1), 30), part(pa, 70, 100))},
		{"by one to end 0", y, 0, train(spot(pb, 20, -1), 30), 1, came(1, train(spot(pb, 19, -1), 30), part(pb, 19, 20))},
		{"just to end 0", y, 0, train(spot(pb, 20, -1), 30), 20, came(20, train(spot(pb, 0, -1), 30), part(pb, 0, 20))},
		{"just to a buffer", y, 0, train(spot(pa, 20, -1), 30), 20, came(20, train(spot(pa, 0, -1), 30), part(pa, 0, 20))},
		{"just to a switch with 0", y, 0, train(spot(pb, 40, 1), 30), 20, came(20, train(spot(pb, 60, 1), 30), part(pb, 40, 60))},
		{"just to a switch that lies otherwise", y, 2, train(spot(pc, 10, -1), 30), 10, came(10, train(spot(pc, 0, -1), 30), part(pc, 0, 10))},
		{"from the end behind", y, 0, train(spot(pb, 0, 1), 20, step(pa, 1)), 1, came(1, train(spot(pb, 1, 1), 20, step(pa, 1)), part(pb, 0, 1))},
		{"from the end behind to end 0", y, 0, train(spot(pa, 100, -1), 20, step(pb, -1)), 5, came(5, train(spot(pa, 95, -1), 20, step(pb, -1)), part(pa, 95, 100))},
		{"from one end to the other", y, 0, train(spot(pb, 0, 1), 20, step(pa, 1)), 60, came(60, train(spot(pb, 60, 1), 20), part(pb, 0, 60))},
	}
}

func movingOverJoints() []moving {
	y := yard()
	return []moving{
		{"one over a plain joint", y, 0, train(spot(pa, 70, 1), 30), 31, came(31, train(spot(pb, 1, 1), 30, step(pa, 1)), part(pa, 70, 100), part(pb, 0, 1))},
		{"one over a plain joint to end 0", y, 0, train(spot(pb, 20, -1), 30), 21, came(21, train(spot(pa, 99, -1), 30, step(pb, -1)), part(pb, 0, 20), part(pa, 99, 100))},
		{"from just at a plain joint", y, 0, train(spot(pa, 100, 1), 30), 1, came(1, train(spot(pb, 1, 1), 30, step(pa, 1)), part(pb, 0, 1))},
		{"from just at a plain joint to end 0", y, 0, train(spot(pb, 0, -1), 30), 25, came(25, train(spot(pa, 75, -1), 30, step(pb, -1)), part(pa, 75, 100))},
		{"from the tip to the left", y, 1, train(spot(pb, 50, 1), 20), 15, came(15, train(spot(pc, 5, 1), 20, step(pb, 1)), part(pb, 50, 60), part(pc, 0, 5))},
		{"from the tip to the right", y, 2, train(spot(pb, 50, 1), 20), 15, came(15, train(spot(pd, 5, 1), 20, step(pb, 1)), part(pb, 50, 60), part(pd, 0, 5))},
		{"from the left to the tip", y, 1, train(spot(pc, 10, -1), 20), 15, came(15, train(spot(pb, 55, -1), 20, step(pc, -1)), part(pc, 0, 10), part(pb, 55, 60))},
		{"from the right to the tip", y, 2, train(spot(pd, 10, -1), 20), 15, came(15, train(spot(pb, 55, -1), 20, step(pd, -1)), part(pd, 0, 10), part(pb, 55, 60))},
		{"from the first of a crossing", y, 0, train(spot(pc, 35, 1), 20), 15, came(15, train(spot(pe, 10, 1), 20, step(pc, 1)), part(pc, 35, 40), part(pe, 0, 10))},
		{"from the second", y, 0, train(spot(pe, 5, -1), 20), 15, came(15, train(spot(pc, 30, -1), 20, step(pe, -1)), part(pe, 0, 5), part(pc, 30, 40))},
		{"from the third", y, 0, train(spot(pd, 25, 1), 20), 15, came(15, train(spot(pe, 40, -1), 20, step(pd, 1)), part(pd, 25, 30), part(pe, 40, 50))},
		{"from the fourth", y, 0, train(spot(pe, 45, 1), 20), 15, came(15, train(spot(pd, 20, -1), 20, step(pe, 1)), part(pe, 45, 50), part(pd, 20, 30))},
		{"just over a piece to its end", y, 1, train(spot(pb, 50, 1), 20), 50, came(50, train(spot(pc, 40, 1), 20), part(pb, 50, 60), part(pc, 0, 40))},
		{"over many", y, 1, train(spot(pa, 90, 1), 80), 175, came(175, train(spot(pd, 15, -1), 80, step(pe, 1), step(pc, 1)), part(pa, 90, 100), part(pb, 0, 60), part(pc, 0, 40), part(pe, 0, 50), part(pd, 15, 30))},
		{"just to the end of many", y, 1, train(spot(pa, 90, 1), 80), 190, came(190, train(spot(pd, 0, -1), 80, step(pe, 1)), part(pa, 90, 100), part(pb, 0, 60), part(pc, 0, 40), part(pe, 0, 50), part(pd, 0, 30))},
	}
}

func movingTails() []moving {
	y := yard()
	onTwo := train(spot(pb, 10, 1), 30, step(pa, 1))
	onThree := train(spot(pc, 10, 1), 75, step(pb, 1), step(pa, 1))
	return []moving{
		{"the tail one ahead of a joint", y, 0, onTwo, 19, came(19, train(spot(pb, 29, 1), 30, step(pa, 1)), part(pb, 10, 29))},
		{"the tail just at a joint", y, 0, onTwo, 20, came(20, train(spot(pb, 30, 1), 30), part(pb, 10, 30))},
		{"the tail behind a joint", y, 0, onTwo, 21, came(21, train(spot(pb, 31, 1), 30), part(pb, 10, 31))},
		{"the tail just at a joint, to end 0", y, 0, train(spot(pa, 90, -1), 25, step(pb, -1)), 15, came(15, train(spot(pa, 75, -1), 25), part(pa, 75, 90))},
		{"the tail one ahead of it, to end 0", y, 0, train(spot(pa, 90, -1), 25, step(pb, -1)), 14, came(14, train(spot(pa, 76, -1), 25, step(pb, -1)), part(pa, 76, 90))},
		{"one of two left behind, one ahead", y, 1, onThree, 4, came(4, train(spot(pc, 14, 1), 75, step(pb, 1), step(pa, 1)), part(pc, 10, 14))},
		{"one of two left behind", y, 1, onThree, 5, came(5, train(spot(pc, 15, 1), 75, step(pb, 1)), part(pc, 10, 15))},
		{"front and tail go over joints at once", y, 1, train(spot(pc, 40, 1), 40), 1, came(1, train(spot(pe, 1, 1), 40, step(pc, 1)), part(pe, 0, 1))},
		{"front and tail come to joints at once", y, 0, train(spot(pb, 10, 1), 60, step(pa, 1)), 50, came(50, train(spot(pb, 60, 1), 60), part(pb, 10, 60))},
		{"the front over a joint as the tail comes to one", y, 1, train(spot(pb, 60, 1), 61, step(pa, 1)), 1, came(1, train(spot(pc, 1, 1), 61, step(pb, 1)), part(pc, 0, 1))},
		{"a short one over many", y, 1, train(spot(pa, 99, 1), 1), 120, came(120, train(spot(pe, 19, 1), 1), part(pa, 99, 100), part(pb, 0, 60), part(pc, 0, 40), part(pe, 0, 19))},
	}
}

func movingRound() []moving {
	once := train(spot(0, 50, 1), 30)
	long := train(spot(0, 50, 1), 250, step(0, 1), step(0, 1))
	small := train(spot(0, 0, -1), 3, step(0, -1), step(0, -1))
	return []moving{
		{"over one piece twice", circle(100), 0, once, 100, came(100, once, part(0, 50, 100), part(0, 0, 50))},
		{"over one piece three times", circle(100), 0, once, 210, came(210, train(spot(0, 60, 1), 30), part(0, 50, 100), part(0, 0, 100), part(0, 0, 60))},
		{"to end 0", circle(100), 0, train(spot(0, 50, -1), 30), 130, came(130, train(spot(0, 20, -1), 30), part(0, 0, 50), part(0, 20, 100))},
		{"just to the joint", circle(100), 0, once, 50, came(50, train(spot(0, 100, 1), 30), part(0, 50, 100))},
		{"just over the joint", circle(100), 0, once, 51, came(51, train(spot(0, 1, 1), 30, step(0, 1)), part(0, 50, 100), part(0, 0, 1))},
		{"longer than its round", circle(100), 0, long, 120, came(120, train(spot(0, 70, 1), 250, step(0, 1), step(0, 1)), part(0, 50, 100), part(0, 0, 70))},
		{"longer than its round, one more piece", circle(100), 0, long, 99, came(99, train(spot(0, 49, 1), 250, step(0, 1), step(0, 1), step(0, 1)), part(0, 50, 100), part(0, 0, 49))},
		{"round pieces of 1", circle(1), 0, small, 4, came(4, small, part(0, 0, 1), part(0, 0, 1), part(0, 0, 1), part(0, 0, 1))},
		{"round and against the switch", balloon(), 1, train(spot(pa, 90, 1), 40), 70, came(70, train(spot(pb, 60, 1), 40), part(pa, 90, 100), part(pb, 0, 60))},
	}
}

func movingToBars() []moving {
	y := yard()
	overBoth := train(spot(pb, 30, 1), 50, step(pa, 1))
	return []moving{
		{"to a buffer", y, 0, train(spot(pa, 20, -1), 30), 21, ended(1, atBuffer, 20, train(spot(pa, 0, -1), 30), part(pa, 0, 20))},
		{"far to a buffer", y, 0, train(spot(pb, 20, -1), 30), impl.MaxFar, ended(1, atBuffer, 120, train(spot(pa, 0, -1), 30), part(pb, 0, 20), part(pa, 0, 100))},
		{"from a buffer", y, 0, train(spot(pa, 0, -1), 30), 1, ended(1, atBuffer, 0, train(spot(pa, 0, -1), 30))},
		{"to a buffer at end 1", cutRing(2, 1), 0, train(spot(0, 90, 1), 30), 40, ended(1, 0, 10, train(spot(0, 100, 1), 30), part(0, 90, 100))},
		{"to the other buffer", cutRing(2, 1), 0, train(spot(1, 90, -1), 30, step(0, -1)), 95, ended(1, 2, 90, train(spot(1, 0, -1), 30), part(1, 0, 90))},
		{"to the tip of a switch with 0", y, 0, overBoth, 31, ended(2, atSwitch, 30, train(spot(pb, 60, 1), 50), part(pb, 30, 60))},
		{"from the tip of a switch with 0", y, 0, train(spot(pb, 60, 1), 5), 1, ended(2, atSwitch, 0, train(spot(pb, 60, 1), 5))},
		{"to the left of a switch with 0", y, 0, train(spot(pc, 10, -1), 20), 11, ended(2, atSwitch, 10, train(spot(pc, 0, -1), 20), part(pc, 0, 10))},
		{"to the right of a switch with 0", y, 0, train(spot(pd, 10, -1), 15), 999, ended(2, atSwitch, 10, train(spot(pd, 0, -1), 15), part(pd, 0, 10))},
		{"from the left when it lies right", y, 2, train(spot(pc, 10, -1), 20), 11, ended(3, atSwitch, 10, train(spot(pc, 0, -1), 20), part(pc, 0, 10))},
		{"from the right when it lies left", y, 1, train(spot(pd, 10, -1), 15), 11, ended(3, atSwitch, 10, train(spot(pd, 0, -1), 15), part(pd, 0, 10))},
		{"from just at it", y, 1, train(spot(pd, 0, -1), 15), 3, ended(3, atSwitch, 0, train(spot(pd, 0, -1), 15))},
		{"round to the right", y, 1, train(spot(pb, 50, 1), 40), 999, ended(3, atSwitch, 130, train(spot(pd, 0, -1), 40, step(pe, 1)), part(pb, 50, 60), part(pc, 0, 40), part(pe, 0, 50), part(pd, 0, 30))},
		{"round to the left", y, 2, train(spot(pb, 50, 1), 40), 131, ended(3, atSwitch, 130, train(spot(pc, 0, -1), 40), part(pb, 50, 60), part(pd, 0, 30), part(pe, 0, 50), part(pc, 0, 40))},
		{"round a balloon", balloon(), 1, train(spot(pa, 90, 1), 70), 71, ended(3, 0, 70, train(spot(pb, 60, 1), 70, step(pa, 1)), part(pa, 90, 100), part(pb, 0, 60))},
		{"round a balloon the other way", balloon(), 2, train(spot(pa, 90, 1), 30), 10000, ended(3, 0, 70, train(spot(pb, 0, -1), 30), part(pa, 90, 100), part(pb, 0, 60))},
	}
}

func movingNot() []moving {
	y := yard()
	left, right := train(spot(pc, 10, 1), 20, step(pb, 1)), train(spot(pd, 10, 1), 20, step(pb, 1))
	behind := train(spot(pc, 0, 1), 20, step(pb, 1))
	out := train(spot(pb, 50, -1), 15, step(pc, -1))
	round := train(spot(pb, 15, -1), 200, step(pc, -1), step(pe, -1), step(pd, 1), step(pb, 1))
	stay := func(x impl.Train) impl.Moved { return ended(4, -1, 0, x) }
	return []moving{
		{"on the left of a switch that lies right", y, 2, left, 5, stay(left)},
		{"on the left of a switch with 0", y, 0, left, 5, stay(left)},
		{"on the right of a switch that lies left", y, 1, right, 5, stay(right)},
		{"on the right of a switch with 0", y, 0, right, 5, stay(right)},
		{"just behind a switch that lies otherwise", y, 2, behind, 5, stay(behind)},
		{"out of the branch to which it does not lie", y, 2, out, 5, stay(out)},
		{"a switch farther back", y, 2, intoLeft(), 5, stay(intoLeft())},
		{"over both branches", y, 1, round, 5, stay(round)},
		{"over both branches, lying right", y, 2, round, impl.MaxFar, stay(round)},
		{"and nothing to move", y, 2, left, 0, stay(left)},
	}
}

func allMoving() []moving {
	return slices.Concat(movingNowhere(), movingOnOnePiece(), movingOverJoints(), movingTails(), movingRound(), movingToBars(), movingNot())
}

func wantMoved(t *testing.T, what string, got, want impl.Moved) {
	t.Helper()
	if !sameMoved(got, want) {
		t.Errorf("%s: Move is %v, not %v", what, got, want)
	}
}

func TestMoves(t *testing.T) {
	for _, m := range allMoving() {
		if !impl.TrainOk(m.net, m.train) || !impl.TrainOk(m.net, m.want.Train) {
			t.Errorf("%s: not a train", m.what)
		}
		wantMoved(t, m.what, impl.Move(m.net, liesOf(m.net, m.lie), m.train, m.far), m.want)
		wantMoved(t, m.what+", by the model", modelMove(m.net, liesOf(m.net, m.lie), m.train, m.far), m.want)
	}
}

// How a switch lies that is neither under the train nor on its way says nothing.
func TestSwitchesBesideTheWay(t *testing.T) {
	for _, m := range movingNowhere()[:4] {
		for lie := range 3 {
			wantMoved(t, m.what, impl.Move(m.net, liesOf(m.net, lie), m.train, m.far), m.want)
		}
	}
	y := yard()
	for lie := range 3 {
		want := came(15, train(spot(pe, 10, 1), 20, step(pc, 1)), part(pc, 35, 40), part(pe, 0, 10))
		wantMoved(t, "over the crossing", impl.Move(y, yardLies(lie), train(spot(pc, 35, 1), 20), 15), want)
	}
}

// The second net's switch lies otherwise than the first's: each has its own number.
func TestEachSwitchAsItLies(t *testing.T) {
	n := doubleNet()
	for first := range 3 {
		for second := range 3 {
			lies := []int{atSwitch: first, 4 + atSwitch: second, 4 + atCross: 0}
			for i, lie := range []int{first, second} {
				p, j := 5*i, 4*i
				x := train(spot(p+pb, 90, 1), 20)
				want := [3]impl.Moved{
					ended(2, j+atSwitch, 10, train(spot(p+pb, 100, 1), 20), part(p+pb, 90, 100)),
					came(15, train(spot(p+pc, 5, 1), 20, step(p+pb, 1)), part(p+pb, 90, 100), part(p+pc, 0, 5)),
					came(15, train(spot(p+pd, 5, 1), 20, step(p+pb, 1)), part(p+pb, 90, 100), part(p+pd, 0, 5)),
				}[lie]
				wantMoved(t, "one of two switches", impl.Move(n, lies, x, 15), want)
			}
		}
	}
}

// roundAndRound is a train of this length on a ring of so many pieces of 10, its front on piece 7, counted round.
func roundAndRound(t *testing.T, pieces, at, way, long int) (impl.Net, impl.Train) {
	t.Helper()
	n := ring(pieces)
	for p := range n.Pieces {
		n.Pieces[p].Len = 10
	}
	p := impl.Place(n, make([]int, pieces), spot(7%pieces, at, way), long)
	if !p.Ok {
		t.Fatalf("%d %d %d %d: not placed", pieces, at, way, long)
	}
	return n, p.Train
}

// A train of 2005 needs 200 steps or 201, just as its front stands; one of 2000 never more than 200.
func TestTheMostSteps(t *testing.T) {
	for _, pieces := range []int{1, 2, 99, 100} {
		lies := make([]int, pieces)
		on := 7 % pieces
		n, x := roundAndRound(t, pieces, 5, 1, 2005)
		if len(x.Back) != 200 {
			t.Fatalf("%d pieces: %d steps", pieces, len(x.Back))
		}
		stands := x
		stands.Front.At = 10
		wantMoved(t, "to the joint", impl.Move(n, lies, x, 5), came(5, stands, part(on, 5, 10)))
		wantMoved(t, "one farther", impl.Move(n, lies, x, 6), ended(6, on, 5, stands, part(on, 5, 10)))
		wantMoved(t, "much farther", impl.Move(n, lies, x, impl.MaxFar), ended(6, on, 5, stands, part(on, 5, 10)))
		wantMoved(t, "at the joint", impl.Move(n, lies, stands, 0), came(0, stands))
		wantMoved(t, "from the joint", impl.Move(n, lies, stands, 1), ended(6, on, 0, stands))
		n, x = roundAndRound(t, pieces, 5, -1, 2005)
		stands = x
		stands.Front.At = 0
		joint := (on + pieces - 1) % pieces
		wantMoved(t, "to end 0", impl.Move(n, lies, x, 5), came(5, stands, part(on, 0, 5)))
		wantMoved(t, "one farther to end 0", impl.Move(n, lies, x, 6), ended(6, joint, 5, stands, part(on, 0, 5)))
		wantJustSoMany(t, pieces)
	}
}

func wantJustSoMany(t *testing.T, pieces int) {
	t.Helper()
	lies := make([]int, pieces)
	n, x := roundAndRound(t, pieces, 10, 1, 2000)
	if len(x.Back) != 199 {
		t.Errorf("%d pieces: %d steps", pieces, len(x.Back))
	}
	for far, back := range map[int]int{0: 199, 1: 200, 9: 200, 10: 199, 11: 200, 19: 200, 20: 199, 2005: 200, 9999: 200, 10000: 199} {
		got := impl.Move(n, lies, x, far)
		if got.Code != 0 || got.Joint != -1 || got.Far != far || len(got.Train.Back) != back || !impl.TrainOk(n, got.Train) {
			t.Errorf("%d pieces, %d: Move is %v", pieces, far, got)
		}
	}
}

// The longest move over pieces of 1, where Back would have far too many steps if none were left behind.
func TestTheFarthestMoves(t *testing.T) {
	if impl.MaxFar != 10000 {
		t.Error("MaxFar")
	}
	x := train(spot(0, 1, 1), 5, slices.Repeat([]impl.Step{step(0, 1)}, 4)...)
	wantMoved(t, "pieces of 1", impl.Move(circle(1), []int{0}, x, 10000), came(10000, x, slices.Repeat([]impl.Part{part(0, 0, 1)}, 10000)...))
	long := train(spot(0, 9999000, 1), 100000)
	moved := train(spot(0, 9000, 1), 100000, step(0, 1))
	wantMoved(t, "a long piece", impl.Move(circle(impl.MaxLen), []int{0}, long, 10000), came(10000, moved, part(0, 9999000, 10000000), part(0, 0, 9000)))
	back := train(spot(0, 500000, -1), 100000)
	wantMoved(t, "a long piece to end 0", impl.Move(circle(impl.MaxLen), []int{0}, back, 10000), came(10000, train(spot(0, 490000, -1), 100000), part(0, 490000, 500000)))
}

func wantWrongMove(t *testing.T, what string, n impl.Net, lies []int, x impl.Train, far int) {
	t.Helper()
	wantMoved(t, what, impl.Move(n, lies, x, far), impl.Moved{Code: 5})
}

func TestMoveWrongInputs(t *testing.T) {
	y := yard()
	x, sits := train(spot(pa, 70, 1), 30), yardLies(1)
	wantMoved(t, "as it is", impl.Move(y, sits, x, 10), came(10, train(spot(pa, 80, 1), 30), part(pa, 70, 80)))
	for _, far := range []int{math.MinInt, math.MinInt + 1, -10001, -2, -1, 10001, 10002, 1 << 40, math.MaxInt - 1, math.MaxInt} {
		wantWrongMove(t, "far", y, sits, x, far)
		wantWrongMove(t, "far, and it does not sit", y, yardLies(2), intoLeft(), far)
		wantWrongMove(t, "far, at a bar", y, sits, train(spot(pa, 0, -1), 30), far)
		wantWrongMove(t, "far, round and round", circle(1), []int{0}, train(spot(0, 1, 1), 1), far)
	}
	for _, lies := range [][]int{nil, {}, {0, 0, 1}, {0, 0, 1, 0, 0}, {0, 0, 3, 0}, {0, 0, -1, 0}, {1, 0, 1, 0}, {0, 2, 1, 0}, {0, 0, 1, 1}, {0, 0, math.MaxInt, 0}, {math.MinInt, 0, 1, 0}} {
		for far := range 2 {
			wantWrongMove(t, "lies", y, lies, x, far)
			wantWrongMove(t, "lies, a switch under it", y, lies, intoLeft(), far)
		}
	}
	for _, no := range append(oddTrains(), train(spot(pa, 70, 1), 71), train(spot(pa, 70, 1), 30, step(pb, 1)), train(spot(pc, 10, 1), 15, step(pd, -1)), train(spot(pc, 10, 1), 75, step(pb, 1))) {
		if !impl.TrainOk(y, no) {
			wantWrongMove(t, "what is no train", y, sits, no, 0)
			wantWrongMove(t, "what is no train", y, sits, no, 10)
		}
	}
	for _, n := range wrongYards() {
		wantWrongMove(t, "a net that is not right", n, sits, x, 10)
		wantWrongMove(t, "a net that is not right", n, make([]int, len(n.Joints)), x, 0)
	}
}

func TestMovesAgainstTheModel(t *testing.T) {
	seen := map[string]int{}
	for _, m := range movers(23, 12000) {
		got, want := impl.Move(m.net, m.lies, m.train, m.far), modelMove(m.net, m.lies, m.train, m.far)
		if !sameMoved(got, want) {
			t.Fatalf("%v: Move is %v, not %v", m, got, want)
		}
		seen["code "+string(rune('0'+want.Code))]++
		seen["over one piece twice"] += number(len(want.Over) > len(m.net.Pieces))
		seen["the front at a joint"] += number(want.Code == 0 && atEndBehind(m.net, turnedSpot(m.train.Front)))
		seen["the front comes to a joint"] += number(want.Code == 0 && atEndBehind(m.net, turnedSpot(want.Train.Front)))
		seen["the front behind a joint"] += number(want.Code == 0 && atEndBehind(m.net, m.train.Front))
		seen["the tail comes to a joint"] += number(want.Code == 0 && atEndBehind(m.net, impl.Tail(m.net, want.Train)))
	}
	for _, what := range []string{"code 0", "code 1", "code 2", "code 3", "code 4", "over one piece twice", "the front at a joint", "the front comes to a joint", "the front behind a joint", "the tail comes to a joint"} {
		if seen[what] < 200 {
			t.Errorf("only %d: %s", seen[what], what)
		}
	}
}

func turnedSpot(s impl.Spot) impl.Spot { return spot(s.Piece, s.At, -s.Way) }

// Every move of every train on nets that lead back into themselves.
func TestEveryMoveOnSmallNets(t *testing.T) {
	for _, n := range []impl.Net{circle(1), circle(3), smallYard(), smallBalloon()} {
		for lie := range 3 {
			lies := liesOf(n, lie)
			for p, x := range n.Pieces {
				for at := range x.Len + 1 {
					for long := 1; long <= 8; long++ {
						everyMove(t, n, lies, spot(p, at, 1), long)
						everyMove(t, n, lies, spot(p, at, -1), long)
					}
				}
			}
		}
	}
}

func everyMove(t *testing.T, n impl.Net, lies []int, s impl.Spot, long int) {
	t.Helper()
	x, ok := modelPlace(n, lies, s, long)
	for far := 0; ok && far <= 12; far++ {
		if got, want := impl.Move(n, lies, x, far), modelMove(n, lies, x, far); !sameMoved(got, want) {
			t.Fatalf("%v %v %v %d: Move is %v, not %v", n, lies, x, far, got, want)
		}
	}
}

// cells counts how often parts lie over each unit of each piece.
func cells(parts ...impl.Part) map[[2]int]int {
	count := map[[2]int]int{}
	for _, p := range parts {
		for at := p.From; at < p.To; at++ {
			count[[2]int{p.Piece, at}]++
		}
	}
	return count
}

func longOf(parts []impl.Part) int {
	long := 0
	for _, p := range parts {
		long += p.To - p.From
	}
	return long
}

// P3: behind every move it is a train that sits, as long as it was, lying where it has come from.
func TestTrainsStayAsLongAsTheyAre(t *testing.T) {
	count := 0
	for _, m := range movers(29, 8000) {
		got := impl.Move(m.net, m.lies, m.train, m.far)
		if got.Code == 4 {
			continue
		}
		count++
		x := got.Train
		if !impl.TrainOk(m.net, x) || !impl.Sits(m.net, m.lies, x) || x.Long != m.train.Long || longOf(impl.Body(m.net, x)) != x.Long {
			t.Fatalf("%v: not the train that it was: %v", m, got)
		}
		if longOf(got.Over) != got.Far || got.Code == 0 && got.Far != m.far || got.Code != 0 && got.Far >= m.far {
			t.Fatalf("%v: it did not come that far: %v", m, got)
		}
		for _, p := range got.Over {
			if p.From >= p.To {
				t.Fatalf("%v: an empty part: %v", m, got)
			}
		}
		lain := cells(append(impl.Body(m.net, m.train), got.Over...)...)
		for at, times := range cells(impl.Body(m.net, x)...) {
			if lain[at] < times {
				t.Fatalf("%v: it lies where it has not come from: %v", m, got)
			}
		}
	}
	if count < 4000 {
		t.Errorf("only %d moves", count)
	}
}

// P3: to move so far and then on is to move farther at once.
func TestToMoveOnIsToMoveFarther(t *testing.T) {
	count, early := 0, 0
	for _, m := range movers(31, 4000) {
		whole := impl.Move(m.net, m.lies, m.train, m.far)
		for first := 0; first <= m.far && whole.Code != 4; first++ {
			one := impl.Move(m.net, m.lies, m.train, first)
			other := impl.Move(m.net, m.lies, one.Train, m.far-first)
			if one.Code == 0 && one.Far != first || one.Code != 0 && one.Code != whole.Code {
				t.Fatalf("%v, first %d: %v", m, first, one)
			}
			code, joint := other.Code, other.Joint
			if first == m.far {
				code, joint = one.Code, one.Joint
			}
			if !sameTrain(other.Train, whole.Train) || one.Far+other.Far != whole.Far || code != whole.Code || joint != whole.Joint {
				t.Fatalf("%v, first %d: %v and %v, at once %v", m, first, one, other, whole)
			}
			if !reflect.DeepEqual(cells(append(slices.Clone(one.Over), other.Over...)...), cells(whole.Over...)) {
				t.Fatalf("%v, first %d: over %v and %v, at once %v", m, first, one.Over, other.Over, whole.Over)
			}
			count++
			early += number(whole.Code != 0)
		}
	}
	if count < 20000 || early < 5000 {
		t.Errorf("%d parted moves, of them %d that end early", count, early)
	}
}

// Long ones, that need the most steps, in two moves too.
func TestToMoveOnWithTheMostSteps(t *testing.T) {
	for _, long := range []int{1995, 2000, 2005} {
		n, x := roundAndRound(t, 100, 5, 1, long)
		lies := make([]int, 100)
		for _, far := range []int{4, 5, 6, 15, 16, 1000, 5000} {
			whole := impl.Move(n, lies, x, far)
			for _, first := range []int{0, 1, 4} {
				one := impl.Move(n, lies, x, first)
				other := impl.Move(n, lies, one.Train, far-first)
				if !sameTrain(other.Train, whole.Train) || one.Far+other.Far != whole.Far || other.Code != whole.Code || other.Joint != whole.Joint {
					t.Errorf("%d long, %d and %d: not as at once", long, first, far-first)
				}
			}
		}
	}
}

// P4: a train that moves, changes ends, moves as far and changes ends again has the Body that it had.
func thereAndBack(t *testing.T, n impl.Net, lies []int, x impl.Train, far int) bool {
	t.Helper()
	there := impl.Move(n, lies, x, far)
	if there.Code != 0 {
		return false
	}
	back := impl.Move(n, lies, impl.Turned(n, there.Train), far)
	again := impl.Turned(n, back.Train)
	if back.Code != 0 || back.Far != far || back.Joint != -1 || !slices.Equal(impl.Body(n, again), impl.Body(n, x)) {
		t.Fatalf("%v %v %v %d: there %v, back %v, again %v", n, lies, x, far, there, back, again)
	}
	if !reflect.DeepEqual(cells(back.Over...), leftBehind(n, x, there)) {
		t.Fatalf("%v %v %v %d: there %v, back over %v", n, lies, x, far, there, back.Over)
	}
	return true
}

// leftBehind is over what the tail came, and so what the front comes over when it goes back.
func leftBehind(n impl.Net, x impl.Train, m impl.Moved) map[[2]int]int {
	left := cells(append(impl.Body(n, x), m.Over...)...)
	for at, times := range cells(impl.Body(n, m.Train)...) {
		left[at] -= times
		if left[at] == 0 {
			delete(left, at)
		}
	}
	return left
}

func TestThereAndBack(t *testing.T) {
	seen := map[string]int{}
	look := func(n impl.Net, lies []int, x impl.Train, far int) {
		if !thereAndBack(t, n, lies, x, far) {
			return
		}
		moved := impl.Move(n, lies, x, far).Train
		seen["moves"]++
		seen["fronts just at joints"] += number(atEndBehind(n, turnedSpot(x.Front)))
		seen["fronts just behind joints"] += number(atEndBehind(n, x.Front))
		seen["fronts that come to joints"] += number(far > 0 && atEndBehind(n, turnedSpot(moved.Front)))
		seen["tails just at joints"] += number(atEndBehind(n, impl.Tail(n, x)))
		seen["tails that come to joints"] += number(far > 0 && atEndBehind(n, impl.Tail(n, moved)))
		seen["over many pieces"] += number(len(moved.Back) > 3)
	}
	for _, m := range allMoving() {
		look(m.net, liesOf(m.net, m.lie), m.train, m.far)
	}
	for _, m := range movers(37, 12000) {
		look(m.net, m.lies, m.train, m.far)
		look(m.net, m.lies, m.train, m.far/4)
	}
	for _, what := range []string{"moves", "fronts just at joints", "fronts just behind joints", "fronts that come to joints", "tails just at joints", "tails that come to joints", "over many pieces"} {
		if seen[what] < 400 {
			t.Errorf("only %d: %s", seen[what], what)
		}
	}
}

func TestThereAndBackWithTheMostSteps(t *testing.T) {
	for _, pieces := range []int{1, 100} {
		for _, long := range []int{1990, 1995, 2000} {
			for _, way := range []int{1, -1} {
				n, x := roundAndRound(t, pieces, 5, way, long)
				for _, far := range []int{0, 4, 5, 6, 15, 16, 1999, 2000, 10000} {
					if !thereAndBack(t, n, make([]int, pieces), x, far) {
						t.Errorf("%d pieces, %d long, %d far: it does not come there", pieces, long, far)
					}
				}
			}
		}
	}
}

func TestMovesAreNewMemory(t *testing.T) {
	for _, m := range allMoving() {
		x, same := roomyTrain(m.train), roomyTrain(m.train)
		lies := roomy(liesOf(m.net, m.lie), 99)
		sameLies := slices.Clone(lies[:cap(lies)])
		for range 2 {
			got, other := impl.Move(m.net, lies, x, m.far), impl.Move(m.net, lies, x, m.far)
			wantMoved(t, m.what+", again", got, m.want)
			slices.Reverse(got.Train.Back)
			fill(got.Train.Back, step(-5, -5))
			if !slices.Equal(got.Over, m.want.Over) {
				t.Errorf("%s: Over changes with Back", m.what)
			}
			slices.Reverse(got.Over)
			fill(got.Over, part(-5, -5, -5))
			wantMoved(t, m.what+", the other answer", other, m.want)
			if !reflect.DeepEqual(x, same) || !slices.Equal(x.Back[:len(x.Back)+1], same.Back[:len(same.Back)+1]) {
				t.Errorf("%s: the train was written into: %v", m.what, x)
			}
			if !slices.Equal(lies[:cap(lies)], sameLies) {
				t.Errorf("%s: lies were written into", m.what)
			}
		}
	}
}
