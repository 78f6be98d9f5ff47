package tests

import (
	"fmt"
	"slices"

	"loop.example/footplate/impl"
)

// The document's chapter 4 said once more, slowly: whoever has moved is held against all others, place by place.

// modelTick is Tick for trains on a right net, with lies and speeds that fit.
func modelTick(n impl.Net, lies []int, trains []impl.Train, speeds []int) impl.Ticked {
	w := impl.Ticked{Ok: true, Trains: slices.Clone(trains)}
	for i, speed := range speeds {
		m := modelMove(n, lies, w.Trains[i], speed)
		w.Trains[i] = m.Train
		w.Codes = append(w.Codes, m.Code)
		w.Far = append(w.Far, m.Far)
		for k, other := range w.Trains {
			body := modelBody(n, other)
			if k != i && (share(modelBody(n, m.Train), body) || share(m.Over, body)) {
				w.Strikes = append(w.Strikes, impl.Strike{By: i, Of: k})
			}
		}
	}
	return w
}

func modelTaken(n impl.Net, trains []impl.Train, parts []impl.Part) []int {
	var all []int
	for i, x := range trains {
		if share(modelBody(n, x), parts) {
			all = append(all, i)
		}
	}
	return all
}

func modelShown(n impl.Net, trains []impl.Train) string {
	text := ""
	for p, x := range n.Pieces {
		text += x.Name
		for i, t := range trains {
			for _, part := range modelBody(n, t) {
				if part.Piece == p {
					text += fmt.Sprintf(" %c%d-%d", "ABCDEFGHIJKLMNOPQRST"[i], part.From, part.To)
				}
			}
		}
		text += "\n"
	}
	return text
}

func sameTicked(a, b impl.Ticked) bool {
	return a.Ok == b.Ok && slices.EqualFunc(a.Trains, b.Trains, sameTrain) && slices.Equal(a.Codes, b.Codes) && slices.Equal(a.Far, b.Far) && slices.Equal(a.Strikes, b.Strikes)
}

// scene is a world that is to tick, as the dice fell.
type scene struct {
	net    impl.Net
	lies   []int
	trains []impl.Train
	speeds []int
}

// scenes are the same in every run. Their pieces are long enough for trains to stand beside one another, and to be driven over.
func scenes(seed uint64, count int) []scene {
	d := dice{state: seed}
	var all []scene
	for range count {
		s := scene{net: d.net()}
		for p := range s.net.Pieces {
			s.net.Pieces[p].Len = 1 + d.roll(20)
		}
		s.lies = d.lies(s.net)
		for range d.roll(7) {
			if x, ok := d.anyTrain(s.net, s.lies); ok {
				s.trains = append(s.trains, x)
				s.speeds = append(s.speeds, d.roll(2)*d.roll(25))
			}
		}
		all = append(all, s)
	}
	return all
}

// anyTrain lies as switches do, most times.
func (d *dice) anyTrain(n impl.Net, lies []int) (impl.Train, bool) {
	if d.roll(6) == 0 {
		return d.train(n)
	}
	return modelPlace(n, lies, d.spot(n), 1+d.roll(8))
}

// parts are right ones; many are of a single place.
func (d *dice) parts(n impl.Net) []impl.Part {
	var parts []impl.Part
	for range d.roll(4) {
		p := d.roll(len(n.Pieces))
		from := d.roll(n.Pieces[p].Len + 1)
		to := from + d.roll(2)*d.roll(n.Pieces[p].Len+1-from)
		parts = append(parts, part(p, from, to))
	}
	return parts
}
