package tests

import (
	"strconv"

	"loop.example/footplate/impl"
)

func piece(name string) impl.Piece { return impl.Piece{Name: name, Len: 100, Speed: 50, Brake: 5} }

func end(piece, side int) impl.End { return impl.End{Piece: piece, Side: side} }

func joint(kind int, name string, ends ...impl.End) impl.Joint {
	return impl.Joint{Kind: kind, Name: name, Ends: ends}
}

// The joints of rightNet, by their places.
const (
	atBuffer = iota
	atPlain
	atSwitch
	atCross
)

// rightNet: buffer - a - b - w (left c, right d), which e leads back into one another over the crossing x.
func rightNet() impl.Net {
	return impl.Net{
		Pieces: []impl.Piece{piece("a"), piece("b"), piece("c"), piece("d"), piece("e")},
		Joints: []impl.Joint{
			atBuffer: joint(impl.JEnd, "", end(0, 0)),
			atPlain:  joint(impl.JPlain, "", end(0, 1), end(1, 0)),
			atSwitch: joint(impl.JSwitch, "w", end(1, 1), end(2, 0), end(3, 0)),
			atCross:  joint(impl.JCross, "x", end(2, 1), end(4, 0), end(3, 1), end(4, 1)),
		},
	}
}

// doubleNet is rightNet twice: the joints from 4 on are those of the second.
func doubleNet() impl.Net {
	n := rightNet()
	second := rightNet()
	for i, p := range second.Pieces {
		p.Name += "2"
		second.Pieces[i] = p
	}
	for i := range second.Joints {
		for k := range second.Joints[i].Ends {
			second.Joints[i].Ends[k].Piece += len(n.Pieces)
		}
	}
	second.Joints[atSwitch].Name = "w2"
	second.Joints[atCross].Name = "x2"
	n.Pieces = append(n.Pieces, second.Pieces...)
	n.Joints = append(n.Joints, second.Joints...)
	return n
}

// ring is right but for its number of pieces: so many pieces, each joined to the next, the last to the first.
func ring(pieces int) impl.Net {
	var n impl.Net
	for i := range pieces {
		n.Pieces = append(n.Pieces, piece("p"+strconv.Itoa(i)))
		n.Joints = append(n.Joints, joint(impl.JPlain, "", end(i, 1), end((i+1)%pieces, 0)))
	}
	return n
}

// cutRing is a ring some of whose joints are parted into two buffers: one joint more for each of them.
func cutRing(pieces, cuts int) impl.Net {
	n := ring(pieces)
	for i := range cuts {
		ends := n.Joints[i].Ends
		n.Joints[i] = joint(impl.JEnd, "", ends[0])
		n.Joints = append(n.Joints, joint(impl.JEnd, "", ends[1]))
	}
	return n
}

// changed is a right net that was put wrong at one place.
func changed(change func(n *impl.Net)) impl.Net {
	n := rightNet()
	change(&n)
	return n
}
