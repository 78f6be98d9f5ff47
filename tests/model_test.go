package tests

import (
	"slices"

	"loop.example/footplate/impl"
)

// The document's chapters 1 and 2 said once more, slowly: a train is gone along by units of one, from its front to its tail.

// pass: from one end of a joint one comes to the other, and back, when it lies so (0: however it lies).
type pass struct {
	one, other impl.End
	joint, lie int
}

func passesOf(n impl.Net) []pass {
	var all []pass
	for j, x := range n.Joints {
		switch x.Kind {
		case impl.JPlain:
			all = append(all, pass{x.Ends[0], x.Ends[1], j, 0})
		case impl.JSwitch:
			all = append(all, pass{x.Ends[0], x.Ends[1], j, 1}, pass{x.Ends[0], x.Ends[2], j, 2})
		case impl.JCross:
			all = append(all, pass{x.Ends[0], x.Ends[1], j, 0}, pass{x.Ends[2], x.Ends[3], j, 0})
		}
	}
	return all
}

// comeFrom is all ends to which one comes from this one; with no lies, however switches lie.
func comeFrom(n impl.Net, lies []int, from impl.End) []impl.End {
	var all []impl.End
	for _, p := range passesOf(n) {
		if p.lie != 0 && lies != nil && lies[p.joint] != p.lie {
			continue
		}
		if p.one == from {
			all = append(all, p.other)
		}
		if p.other == from {
			all = append(all, p.one)
		}
	}
	return all
}

func aheadOf(s impl.Step) impl.End {
	return map[int]impl.End{1: end(s.Piece, 1), -1: end(s.Piece, 0)}[s.Way]
}

func behindOf(s impl.Step) impl.End {
	return map[int]impl.End{1: end(s.Piece, 0), -1: end(s.Piece, 1)}[s.Way]
}

// joined tells whether one comes from a piece to the one ahead of it.
func joined(n impl.Net, lies []int, s, ahead impl.Step) bool {
	return slices.Contains(comeFrom(n, lies, aheadOf(s)), behindOf(ahead))
}

func stepsOf(t impl.Train) []impl.Step {
	return append([]impl.Step{{Piece: t.Front.Piece, Way: t.Front.Way}}, t.Back...)
}

// unit is one of a train's units: on which of its pieces, counted from the front's, and between which place and the next.
type unit struct{ step, piece, low int }

// unitsOf goes along a train by its steps; where they do not suffice it goes as far as they do. The last is where its tail is.
func unitsOf(n impl.Net, t impl.Train) ([]unit, impl.Spot) {
	steps := stepsOf(t)
	var all []unit
	at, i := t.Front, 0
	for len(all) < t.Long {
		if at.Way == 1 && at.At == 0 || at.Way == -1 && at.At == n.Pieces[at.Piece].Len {
			i++
			if i == len(steps) {
				break
			}
			at = impl.Spot{Piece: steps[i].Piece, Way: steps[i].Way}
			if at.Way == 1 {
				at.At = n.Pieces[at.Piece].Len
			}
		}
		at.At -= at.Way
		all = append(all, unit{i, at.Piece, at.At - (1-at.Way)/2})
	}
	return all, at
}

func isSpot(n impl.Net, s impl.Spot) bool {
	return s.Piece >= 0 && s.Piece < len(n.Pieces) && s.At >= 0 && s.At <= n.Pieces[s.Piece].Len && (s.Way == 1 || s.Way == -1)
}

// modelOk is TrainOk on a net that is right.
func modelOk(n impl.Net, t impl.Train) bool {
	if !isSpot(n, t.Front) || t.Long < 1 || t.Long > 100000 || len(t.Back) > 200 {
		return false
	}
	steps := stepsOf(t)
	for i, s := range steps {
		if !isSpot(n, impl.Spot{Piece: s.Piece, Way: s.Way}) || i > 0 && !joined(n, nil, s, steps[i-1]) {
			return false
		}
	}
	units, _ := unitsOf(n, t)
	return len(units) == t.Long && units[t.Long-1].step == len(t.Back)
}

func modelBody(n impl.Net, t impl.Train) []impl.Part {
	var parts []impl.Part
	units, _ := unitsOf(n, t)
	for i, u := range units {
		if i == 0 || units[i-1].step != u.step {
			parts = append(parts, impl.Part{Piece: u.piece, From: u.low, To: u.low + 1})
			continue
		}
		last := &parts[len(parts)-1]
		last.From, last.To = min(last.From, u.low), max(last.To, u.low+1)
	}
	return parts
}

func modelTurned(n impl.Net, t impl.Train) impl.Train {
	_, tail := unitsOf(n, t)
	tail.Way = -tail.Way
	turned := impl.Train{Front: tail, Long: t.Long}
	steps := stepsOf(t)
	for i := len(steps) - 2; i >= 0; i-- {
		turned.Back = append(turned.Back, impl.Step{Piece: steps[i].Piece, Way: -steps[i].Way})
	}
	for len(turned.Back) > 0 && !modelOk(n, turned) {
		turned.Back = turned.Back[:len(turned.Back)-1]
	}
	return turned
}

func modelSits(n impl.Net, lies []int, t impl.Train) bool {
	steps := stepsOf(t)
	for i := 1; i < len(steps); i++ {
		if !joined(n, lies, steps[i], steps[i-1]) {
			return false
		}
	}
	return true
}

// share looks for a place: each part has those from From to To.
func share(some, others []impl.Part) bool {
	places := map[[2]int]bool{}
	for _, p := range some {
		for at := p.From; at <= p.To; at++ {
			places[[2]int{p.Piece, at}] = true
		}
	}
	for _, p := range others {
		for at := p.From; at <= p.To; at++ {
			if places[[2]int{p.Piece, at}] {
				return true
			}
		}
	}
	return false
}

func modelMeet(n impl.Net, a, b impl.Train) bool { return share(modelBody(n, a), modelBody(n, b)) }

// modelPlace adds one piece after the other, until what comes of it is a train.
func modelPlace(n impl.Net, lies []int, s impl.Spot, long int) (impl.Train, bool) {
	t := impl.Train{Front: s, Long: long}
	if !isSpot(n, s) {
		return t, false
	}
	for !modelOk(n, t) {
		steps := stepsOf(t)
		to := comeFrom(n, lies, behindOf(steps[len(steps)-1]))
		if len(to) == 0 || len(t.Back) > 200 || long < 1 {
			return t, false
		}
		t.Back = append(t.Back, impl.Step{Piece: to[0].Piece, Way: 2*to[0].Side - 1})
	}
	return t, true
}

func sameTrain(a, b impl.Train) bool {
	return a.Front == b.Front && a.Long == b.Long && slices.Equal(a.Back, b.Back)
}

func isNone(t impl.Train) bool { return sameTrain(t, impl.Train{}) }

// dice is a row of numbers that is the same in every run.
type dice struct{ state uint64 }

func (d *dice) roll(sides int) int {
	d.state = d.state*6364136223846793005 + 1442695040888963407
	return int((d.state >> 33) % uint64(sides))
}

func (d *dice) way() int { return 2*d.roll(2) - 1 }

// net is a right one of few short pieces, their ends joined as it comes: few buffers, so that trains lie over many pieces.
func (d *dice) net() impl.Net {
	var n impl.Net
	var ends []impl.End
	for p := range 1 + d.roll(6) {
		x := piece("p" + string(rune('0'+p)))
		x.Len = 1 + d.roll(5)
		n.Pieces = append(n.Pieces, x)
		ends = append(ends, end(p, 0), end(p, 1))
	}
	for i := len(ends) - 1; i > 0; i-- {
		k := d.roll(i + 1)
		ends[i], ends[k] = ends[k], ends[i]
	}
	for len(ends) > 0 {
		kind := min(1+d.roll(4), len(ends))
		if kind == impl.JEnd && d.roll(3) > 0 {
			kind = min(impl.JPlain, len(ends))
		}
		name := ""
		if kind >= impl.JSwitch {
			name = "j" + string(rune('a'+len(n.Joints)))
		}
		n.Joints = append(n.Joints, joint(kind, name, slices.Clone(ends[:kind])...))
		ends = ends[kind:]
	}
	return n
}

func (d *dice) lies(n impl.Net) []int {
	lies := make([]int, len(n.Joints))
	for j, x := range n.Joints {
		if x.Kind == impl.JSwitch {
			lies[j] = min(d.roll(5), 2)
		}
	}
	return lies
}

func (d *dice) spot(n impl.Net) impl.Spot {
	p := d.roll(len(n.Pieces))
	return impl.Spot{Piece: p, At: d.roll(n.Pieces[p].Len + 1), Way: d.way()}
}

// train lies over switches whichever way; it is shorter than was thrown when it comes to a buffer.
func (d *dice) train(n impl.Net) (impl.Train, bool) {
	t := impl.Train{Front: d.spot(n), Long: 1 + d.roll(25)}
	for !modelOk(n, t) {
		steps := stepsOf(t)
		to := comeFrom(n, nil, behindOf(steps[len(steps)-1]))
		if len(to) == 0 {
			units, _ := unitsOf(n, t)
			t.Long = len(units)
			return t, modelOk(n, t)
		}
		e := to[d.roll(len(to))]
		t.Back = append(t.Back, impl.Step{Piece: e.Piece, Way: 2*e.Side - 1})
	}
	return t, true
}

// spoiled is a train with one thing changed; it may be one still.
func (d *dice) spoiled(n impl.Net, t impl.Train) impl.Train {
	t.Back = slices.Clone(t.Back)
	i := d.roll(len(t.Back) + 1)
	by := d.way()
	switch d.roll(9) {
	case 0:
		t.Long += by
	case 1:
		t.Front.At += by
	case 2:
		t.Front.Way = -t.Front.Way
	case 3:
		t.Front.Piece = d.roll(len(n.Pieces)+2) - 1
	case 4:
		t.Back = append(t.Back, impl.Step{Piece: d.roll(len(n.Pieces)), Way: d.way()})
	case 5:
		t.Back = t.Back[:i]
	case 6:
		if i < len(t.Back) {
			t.Back[i].Piece = d.roll(len(n.Pieces)+2) - 1
		}
	case 7:
		if i < len(t.Back) {
			t.Back[i].Way = d.roll(5) - 2
		}
	case 8:
		steps := stepsOf(t)
		if to := comeFrom(n, nil, behindOf(steps[len(steps)-1])); len(to) > 0 {
			t.Back = append(t.Back, impl.Step{Piece: to[0].Piece, Way: 2*to[0].Side - 1})
		}
	}
	return t
}
