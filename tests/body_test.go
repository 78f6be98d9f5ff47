package tests

import (
	"math"
	"reflect"
	"slices"
	"testing"

	"loop.example/footplate/impl"
)

// world is a net with trains on it, as the dice fell.
type world struct {
	net    impl.Net
	lies   []int
	trains []impl.Train
}

// worlds are the same in every run; the last trains of each are spoiled ones.
func worlds(count int) []world {
	d := dice{state: 7}
	var all []world
	for range count {
		w := world{net: d.net()}
		w.lies = d.lies(w.net)
		for range 4 {
			if x, ok := d.train(w.net); ok {
				w.trains = append(w.trains, x, d.spoiled(w.net, x), d.spoiled(w.net, x))
			}
		}
		all = append(all, w)
	}
	return all
}

func TestTrainsAgainstTheModel(t *testing.T) {
	right, wrong := 0, 0
	for i, w := range worlds(1500) {
		if impl.NetOk(w.net) != (impl.Fault{}) || !impl.LiesOk(w.net, w.lies) {
			t.Fatalf("world %d: not the net that was meant", i)
		}
		for _, x := range w.trains {
			if !modelOk(w.net, x) {
				wrong++
				wantNoTrain(t, "spoiled", w.net, x)
				continue
			}
			right++
			wantAsModel(t, w, x)
		}
		if t.Failed() {
			t.Fatalf("world %d: %v", i, w)
		}
	}
	if right < 5000 || wrong < 5000 {
		t.Errorf("%d trains and %d that are none", right, wrong)
	}
}

func wantAsModel(t *testing.T, w world, x impl.Train) {
	t.Helper()
	wantTrain(t, "as the model", w.net, x)
	if got, want := impl.Body(w.net, x), modelBody(w.net, x); !slices.Equal(got, want) {
		t.Errorf("%v: Body is %v, not %v", x, got, want)
	}
	if _, want := unitsOf(w.net, x); impl.Tail(w.net, x) != want {
		t.Errorf("%v: Tail is %v, not %v", x, impl.Tail(w.net, x), want)
	}
	if got, want := impl.Turned(w.net, x), modelTurned(w.net, x); !sameTrain(got, want) {
		t.Errorf("%v: Turned is %v, not %v", x, got, want)
	}
	if got, want := impl.Sits(w.net, w.lies, x), modelSits(w.net, w.lies, x); got != want {
		t.Errorf("%v: Sits is %v", x, got)
	}
	want, ok := modelPlace(w.net, w.lies, x.Front, x.Long)
	if got := impl.Place(w.net, w.lies, x.Front, x.Long); got.Ok != ok || ok && !sameTrain(got.Train, want) {
		t.Errorf("%v: Place is %v, not %v", x, got, want)
	}
	for _, y := range w.trains {
		want := modelOk(w.net, y) && modelMeet(w.net, x, y)
		if impl.Meet(w.net, x, y) != want || impl.Meet(w.net, y, x) != want {
			t.Errorf("%v and %v: Meet is not %v", x, y, want)
		}
	}
}

// Whatever is placed is a train that sits.
func TestPlacedTrainsSit(t *testing.T) {
	d := dice{state: 11}
	placed, refused := 0, 0
	for range 5000 {
		n := d.net()
		lies, s, long := d.lies(n), d.spot(n), 1+d.roll(30)
		got := impl.Place(n, lies, s, long)
		want, ok := modelPlace(n, lies, s, long)
		if got.Ok != ok || ok && !sameTrain(got.Train, want) {
			t.Fatalf("%v %v %v %d: Place is %v, not %v", n, lies, s, long, got, want)
		}
		if !ok {
			refused++
			continue
		}
		placed++
		if !impl.TrainOk(n, got.Train) || !impl.Sits(n, lies, got.Train) || got.Train.Front != s || got.Train.Long != long {
			t.Fatalf("%v %v: placed, but not as a train that sits: %v", n, lies, got)
		}
	}
	if placed < 1000 || refused < 1000 {
		t.Errorf("%d placed and %d refused", placed, refused)
	}
}

// follow goes along the parts of a body: each reaches from the joint where the one ahead ended to the next joint, the first from the front, the last to the tail.
func follow(t *testing.T, n impl.Net, x impl.Train) {
	t.Helper()
	parts, tail := impl.Body(n, x), impl.Tail(n, x)
	steps := stepsOf(x)
	if atEndBehind(n, x.Front) {
		steps = steps[1:]
	}
	if len(parts) != len(steps) {
		t.Fatalf("%v: %d parts on %d pieces", x, len(parts), len(steps))
	}
	whole := 0
	for i, p := range parts {
		s := steps[i]
		ahead, behind := p.To, p.From
		if s.Way == -1 {
			ahead, behind = p.From, p.To
		}
		wantAhead, wantBehind := placeOf(n, aheadOf(s)), placeOf(n, behindOf(s))
		if i == 0 && !atEndBehind(n, x.Front) {
			wantAhead = x.Front.At
		}
		if i == len(parts)-1 {
			wantBehind = tail.At
			if tail.Piece != s.Piece || tail.Way != s.Way {
				t.Errorf("%v: the tail %v is not on the last piece", x, tail)
			}
		}
		if p.Piece != s.Piece || p.From >= p.To || ahead != wantAhead || behind != wantBehind {
			t.Errorf("%v: part %d is %v", x, i, p)
		}
		whole += p.To - p.From
	}
	if whole != x.Long {
		t.Errorf("%v: the parts are %d long", x, whole)
	}
}

func placeOf(n impl.Net, e impl.End) int { return e.Side * n.Pieces[e.Piece].Len }

func atEndBehind(n impl.Net, s impl.Spot) bool {
	return s.At == placeOf(n, behindOf(step(s.Piece, s.Way)))
}

func overSomePieceTwice(x impl.Train) bool {
	seen := map[int]bool{}
	for _, s := range stepsOf(x) {
		if seen[s.Piece] {
			return true
		}
		seen[s.Piece] = true
	}
	return false
}

func wantSameFromTheOtherEnd(t *testing.T, n impl.Net, x impl.Train) {
	t.Helper()
	body, tail, turned := impl.Body(n, x), impl.Tail(n, x), impl.Turned(n, x)
	if !impl.TrainOk(n, turned) || turned.Long != x.Long {
		t.Errorf("%v: turned it is %v", x, turned)
	}
	if turned.Front != spot(tail.Piece, tail.At, -tail.Way) {
		t.Errorf("%v: the tail is %v, the front of Turned %v", x, tail, turned.Front)
	}
	other := slices.Clone(impl.Body(n, turned))
	slices.Reverse(other)
	if !slices.Equal(other, body) {
		t.Errorf("%v: Body is %v, from the other end %v", x, body, other)
	}
	if again := impl.Body(n, impl.Turned(n, turned)); !slices.Equal(again, body) {
		t.Errorf("%v: Body is %v, turned twice %v", x, body, again)
	}
}

// P5.
func TestBodiesFromFrontToTail(t *testing.T) {
	count, fronts, tails, both, twice, many := 0, 0, 0, 0, 0, 0
	look := func(n impl.Net, x impl.Train) {
		follow(t, n, x)
		wantSameFromTheOtherEnd(t, n, x)
		count++
		front, tail := atEndBehind(n, x.Front), atEndBehind(n, impl.Tail(n, x))
		fronts += number(front)
		tails += number(tail)
		both += number(front && tail)
		twice += number(overSomePieceTwice(x))
		many += number(len(x.Back) >= 5)
	}
	for _, l := range allLaid() {
		look(l.net, l.train)
		look(l.net, l.turned)
	}
	for _, w := range worlds(2000) {
		for _, x := range w.trains {
			if modelOk(w.net, x) {
				look(w.net, x)
			}
		}
		if t.Failed() {
			t.FailNow()
		}
	}
	for what, seen := range map[string]int{"trains": count, "fronts at joints": fronts, "tails at joints": tails, "both at joints": both, "over one piece twice": twice, "many pieces": many} {
		if seen < 500 {
			t.Errorf("only %d: %s", seen, what)
		}
	}
}

func number(is bool) int {
	if is {
		return 1
	}
	return 0
}

// Every place of a front and every length, on nets that lead back into themselves.
func TestEveryTrainOfSmallNets(t *testing.T) {
	for _, n := range []impl.Net{circle(1), circle(4), smallYard(), smallBalloon()} {
		for p, x := range n.Pieces {
			for at := range x.Len + 1 {
				for _, way := range []int{1, -1} {
					for long := 1; long <= 12; long++ {
						everyTrain(t, n, train(spot(p, at, way), long))
					}
				}
			}
		}
	}
}

// everyTrain tries all ways behind a front; what is not yet or no longer a train has to be told so.
func everyTrain(t *testing.T, n impl.Net, x impl.Train) {
	t.Helper()
	if modelOk(n, x) {
		wantAsModel(t, world{net: n, lies: liesOf(n, 1)}, x)
		follow(t, n, x)
		wantSameFromTheOtherEnd(t, n, x)
	} else {
		wantNoTrain(t, "not as many as it needs", n, x)
	}
	units, _ := unitsOf(n, x)
	if len(x.Back) > 12 || len(units) == x.Long && modelOk(n, x) {
		return
	}
	steps := stepsOf(x)
	for _, e := range comeFrom(n, nil, behindOf(steps[len(steps)-1])) {
		more := x
		more.Back = append(slices.Clone(x.Back), impl.Step{Piece: e.Piece, Way: 2*e.Side - 1})
		everyTrain(t, n, more)
	}
}

func smallYard() impl.Net {
	n := yard()
	for p, long := range []int{pa: 3, pb: 2, pc: 1, pd: 2, pe: 1} {
		n.Pieces[p].Len = long
	}
	return n
}

func smallBalloon() impl.Net {
	n := balloon()
	n.Pieces[pa].Len, n.Pieces[pb].Len = 2, 3
	return n
}

// roomy has a list's own values, and one more in the room behind it that belongs to the caller too.
func roomy[T any](list []T, more T) []T {
	return append(slices.Clone(list), more)[:len(list)]
}

func roomyTrain(x impl.Train) impl.Train {
	x.Back = roomy(x.Back, step(77, 77))
	return x
}

// fill writes over an answer's list and all the room behind it.
func fill[T any](list []T, with T) {
	list = list[:cap(list)]
	for i := range list {
		list[i] = with
	}
}

func TestAnswersAreNewMemory(t *testing.T) {
	for _, l := range allLaid() {
		x, same := roomyTrain(l.train), roomyTrain(l.train)
		lies := roomy(liesOf(l.net, max(l.lie, 1)), 99)
		sameLies := slices.Clone(lies[:cap(lies)])
		for range 2 {
			turned, placed, body := impl.Turned(l.net, x), impl.Place(l.net, lies, x.Front, x.Long), impl.Body(l.net, x)
			impl.Tail(l.net, x)
			impl.Sits(l.net, lies, x)
			impl.Meet(l.net, x, x)
			if !sameTrain(turned, l.turned) || !slices.Equal(body, l.body) || l.lie != either && !sameTrain(placed.Train, l.train) {
				t.Errorf("%s: another answer the second time", l.what)
			}
			slices.Reverse(turned.Back)
			slices.Reverse(body)
			slices.Reverse(placed.Train.Back)
			fill(turned.Back, step(-5, -5))
			fill(body, part(-5, -5, -5))
			fill(placed.Train.Back, step(-5, -5))
			if !reflect.DeepEqual(x, same) || !slices.Equal(x.Back[:len(x.Back)+1], same.Back[:len(same.Back)+1]) {
				t.Errorf("%s: the train was written into: %v", l.what, x)
			}
			if !slices.Equal(lies[:cap(lies)], sameLies) {
				t.Errorf("%s: lies were written into", l.what)
			}
		}
	}
}

// A turned train with a train turned again: two answers share nothing.
func TestTwoAnswersShareNothing(t *testing.T) {
	y := yard()
	first, second := impl.Turned(y, intoLeft()), impl.Turned(y, intoLeft())
	one, other := impl.Body(y, intoLeft()), impl.Body(y, intoLeft())
	placed, again := impl.Place(y, yardLies(1), intoLeft().Front, 115), impl.Place(y, yardLies(1), intoLeft().Front, 115)
	fill(first.Back, step(-5, -5))
	fill(one, part(-5, -5, -5))
	fill(placed.Train.Back, step(-5, -5))
	if !sameTrain(second, impl.Turned(y, intoLeft())) || !slices.Equal(other, impl.Body(y, intoLeft())) || !sameTrain(again.Train, intoLeft()) {
		t.Error("an answer changes with another")
	}
}

func TestNothingIsWrittenIntoNets(t *testing.T) {
	trains := []impl.Train{train(spot(pb, 50, 1), 120, step(pa, 1)), train(spot(pc, 0, 1), 150, step(pb, 1), step(pa, 1)), train(spot(pa, 50, -1), 40), {}}
	for i, x := range trains {
		n, same := roomyNet(), roomyNet()
		lies := []int{0, 0, 1, 0, 0, 0, 2, 0, 99}
		impl.TrainOk(n, x)
		impl.Place(n, lies[:8], x.Front, x.Long)
		fill(impl.Body(n, x), part(-5, -5, -5))
		impl.Tail(n, x)
		fill(impl.Turned(n, x).Back, step(-5, -5))
		impl.Sits(n, lies[:8], x)
		impl.Meet(n, x, trains[0])
		if !reflect.DeepEqual(whole(n), whole(same)) {
			t.Errorf("train %d: the net was written into", i)
		}
		if !slices.Equal(lies, []int{0, 0, 1, 0, 0, 0, 2, 0, 99}) {
			t.Errorf("train %d: lies were written into", i)
		}
	}
}

// oddTrains: trains with numbers that a careless reckoning would trip over.
func oddTrains() []impl.Train {
	far := []int{math.MinInt, math.MinInt + 1, -1, 0, 1, 2, 4, 100, math.MaxInt - 1, math.MaxInt}
	trains := []impl.Train{{}, {Back: []impl.Step{}}, {Back: make([]impl.Step, 1000)}}
	for _, v := range far {
		for _, way := range []int{1, -1, v} {
			trains = append(trains,
				train(spot(v, 50, way), 10), train(spot(0, v, way), 10), train(spot(0, 50, way), v),
				train(spot(v, v, way), v, step(v, way)),
				train(spot(1, 50, way), 60, step(v, way)), train(spot(1, 50, 1), 60, step(0, v)),
				train(spot(2, 50, 1), 160, step(1, 1), step(v, way)), train(spot(2, 50, 1), v, step(1, 1), step(0, 1)),
			)
		}
	}
	return append(trains, train(spot(2, 50, 1), 160, step(1, 1), step(0, 1)))
}

// A panic in any call ends the test by itself.
func TestNothingPanicsWithTrains(t *testing.T) {
	trains := oddTrains()
	for i, n := range oddNets() {
		if len(n.Joints) > 200 {
			continue
		}
		wrong := impl.NetOk(n) != (impl.Fault{})
		all := trains
		if wrong && i%7 != 0 {
			all = trains[:40]
		}
		for _, x := range all {
			ok := impl.TrainOk(n, x)
			if ok && wrong {
				t.Fatalf("net %d is not right, but %v a train of it", i, x)
			}
			body, tail, turned := impl.Body(n, x), impl.Tail(n, x), impl.Turned(n, x)
			if ok != (len(body) > 0) || !ok && tail != (impl.Spot{}) || ok == isNone(turned) || impl.Meet(n, x, x) != ok {
				t.Errorf("net %d: %v: %v, but %v %v %v", i, x, ok, body, tail, turned)
			}
			for _, lies := range [][]int{nil, {math.MinInt, math.MaxInt}, make([]int, len(n.Joints)), {0, 0, 1, 0}, {0, 0, math.MaxInt, 0}} {
				fits := impl.LiesOk(n, lies)
				if impl.Sits(n, lies, x) && !(fits && ok) {
					t.Errorf("net %d: %v sits", i, x)
				}
				if got := impl.Place(n, lies, x.Front, x.Long); got.Ok && !(fits && impl.Sits(n, lies, got.Train)) {
					t.Errorf("net %d: %v placed", i, got)
				}
			}
		}
	}
}
