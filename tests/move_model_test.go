package tests

import (
	"slices"

	"loop.example/footplate/impl"
)

// The document's chapter 3 said once more, slowly: a train moves by units of one, each time as a whole.

// barAt is which joint stands at an end, and why one cannot go over it.
func barAt(n impl.Net, lies []int, from impl.End) (joint, code int) {
	for j, x := range n.Joints {
		if slices.Contains(x.Ends, from) {
			joint = j
		}
	}
	switch {
	case len(comeFrom(n, lies, from)) > 0:
		return joint, 0
	case n.Joints[joint].Kind == impl.JEnd:
		return joint, 1
	case lies[joint] == 0:
		return joint, 2
	}
	return joint, 3
}

// modelStep moves a train by one. It knows nothing of the most steps that there may be: the dice throw no train that long.
func modelStep(n impl.Net, lies []int, t impl.Train) (moved impl.Train, joint, code int) {
	steps := stepsOf(t)
	front := t.Front
	if front.At == placeOf(n, aheadOf(steps[0])) {
		if joint, code = barAt(n, lies, aheadOf(steps[0])); code != 0 {
			return t, joint, code
		}
		to := comeFrom(n, lies, aheadOf(steps[0]))[0]
		front = impl.Spot{Piece: to.Piece, At: placeOf(n, to), Way: 1 - 2*to.Side}
		moved.Back = append(moved.Back, steps[0])
	}
	moved.Front = spot(front.Piece, front.At+front.Way, front.Way)
	moved.Long = t.Long
	moved.Back = append(moved.Back, t.Back...)
	for len(moved.Back) > 0 && !modelOk(n, moved) {
		moved.Back = moved.Back[:len(moved.Back)-1]
	}
	return moved, -1, 0
}

// modelMove is Move for a train on a right net, with lies that fit and so far as may be.
func modelMove(n impl.Net, lies []int, t impl.Train, far int) impl.Moved {
	m := impl.Moved{Joint: -1, Train: t}
	if !modelSits(n, lies, t) {
		m.Code = 4
		return m
	}
	for m.Far < far {
		next, joint, code := modelStep(n, lies, m.Train)
		if code != 0 {
			m.Code, m.Joint = code, joint
			return m
		}
		over := m.Train.Front.At == placeOf(n, aheadOf(stepsOf(m.Train)[0]))
		unit := impl.Part{Piece: next.Front.Piece, From: next.Front.At, To: next.Front.At - next.Front.Way}
		if unit.From > unit.To {
			unit.From, unit.To = unit.To, unit.From
		}
		if over || len(m.Over) == 0 {
			m.Over = append(m.Over, unit)
		} else {
			last := &m.Over[len(m.Over)-1]
			last.From, last.To = min(last.From, unit.From), max(last.To, unit.To)
		}
		m.Far++
		m.Train = next
	}
	return m
}

// axleAt is where an axle is: at the tail of a train that ends there.
func axleAt(n impl.Net, t impl.Train, axle int) impl.Spot {
	t.Long = axle
	_, at := unitsOf(n, t)
	return at
}

// modelPasses is Passes for axles and posts that are as said.
func modelPasses(n impl.Net, lies []int, t impl.Train, axles []int, posts []impl.Post, far int) []impl.Pass {
	var all []impl.Pass
	if !modelSits(n, lies, t) {
		return nil
	}
	for d := 1; d <= far; d++ {
		next, _, code := modelStep(n, lies, t)
		if code != 0 {
			break
		}
		t = next
		for _, a := range axles {
			at := axleAt(n, t, a)
			for i, p := range posts {
				if at.Piece == p.Piece && at.At == p.At {
					all = append(all, impl.Pass{Far: d, Post: i, Way: at.Way})
				}
			}
		}
	}
	return all
}

func sameMoved(a, b impl.Moved) bool {
	return a.Code == b.Code && a.Far == b.Far && a.Joint == b.Joint && sameTrain(a.Train, b.Train) && slices.Equal(a.Over, b.Over)
}

// mover is a train that is to move, as the dice fell.
type mover struct {
	net   impl.Net
	lies  []int
	train impl.Train
	far   int
}

// movers are the same in every run. Of their trains some lie as switches do and some however they like.
func movers(seed uint64, count int) []mover {
	d := dice{state: seed}
	var all []mover
	for len(all) < count {
		m := mover{net: d.net(), far: d.roll(30)}
		m.lies = d.lies(m.net)
		ok := false
		if d.roll(4) > 0 {
			m.train, ok = modelPlace(m.net, m.lies, d.spot(m.net), 1+d.roll(15))
		} else {
			m.train, ok = d.train(m.net)
		}
		if ok {
			all = append(all, m)
		}
	}
	return all
}

// axles are right ones; several may be at one place.
func (d *dice) axles(long int) []int {
	axles := make([]int, d.roll(6))
	for i := range axles {
		axles[i] = d.roll(long + 1)
	}
	slices.Sort(axles)
	return axles
}

// posts are right ones; several may be at one place. There is none on a piece of length 1.
func (d *dice) posts(n impl.Net) []impl.Post {
	var posts []impl.Post
	for range d.roll(8) {
		p := d.roll(len(n.Pieces))
		if long := n.Pieces[p].Len; long > 1 {
			posts = append(posts, impl.Post{Piece: p, At: 1 + d.roll(long-1)})
		}
	}
	return posts
}
