package tests

import (
	"math"
	"reflect"
	"strings"
	"testing"

	"loop.example/footplate/impl"
)

func wantFault(t *testing.T, what string, n impl.Net, code, at int) {
	t.Helper()
	want := impl.Fault{Code: code, At: at}
	if got := impl.NetOk(n); got != want {
		t.Errorf("%q: NetOk is %v, not %v", what, got, want)
	}
}

func wantRight(t *testing.T, what string, n impl.Net) {
	t.Helper()
	wantFault(t, what, n, 0, 0)
}

func TestNetRight(t *testing.T) {
	wantRight(t, "a joint of each kind", rightNet())
	wantRight(t, "two of each kind", doubleNet())
	wantRight(t, "one piece, joined to itself", ring(1))
	wantRight(t, "one piece between buffers", cutRing(1, 1))
	wantRight(t, "a switch named as a piece", changed(func(n *impl.Net) { n.Joints[atSwitch].Name = "a" }))
	wantRight(t, "a crossing named as a piece", changed(func(n *impl.Net) { n.Joints[atCross].Name = "e" }))
	wantRight(t, "a switch whose right end is joined to its left one", impl.Net{
		Pieces: []impl.Piece{piece("a"), piece("b")},
		Joints: []impl.Joint{
			joint(impl.JSwitch, "w", end(0, 1), end(1, 0), end(1, 1)),
			joint(impl.JEnd, "", end(0, 0)),
		},
	})
}

func TestNetCounts(t *testing.T) {
	wantFault(t, "nothing at all", impl.Net{}, 1, 0)
	wantFault(t, "empty lists", impl.Net{Pieces: []impl.Piece{}, Joints: []impl.Joint{}}, 1, 0)
	wantFault(t, "joints alone", impl.Net{Joints: rightNet().Joints}, 1, 0)
	wantRight(t, "MaxPieces", ring(impl.MaxPieces))
	wantFault(t, "MaxPieces and one", ring(impl.MaxPieces+1), 1, 0)
	most := cutRing(impl.MaxPieces, impl.MaxJoints-impl.MaxPieces)
	if len(most.Joints) != impl.MaxJoints {
		t.Fatal("not the net that was meant")
	}
	wantRight(t, "MaxJoints", most)
	wantFault(t, "MaxJoints and one", cutRing(impl.MaxPieces, impl.MaxJoints-impl.MaxPieces+1), 1, 0)
	wantFault(t, "pieces alone", impl.Net{Pieces: rightNet().Pieces}, 5, 0)
}

func TestLimitsOfNumbers(t *testing.T) {
	limits := []struct {
		what string
		most int
		told int
		set  func(p *impl.Piece, v int)
	}{
		{"Len", impl.MaxLen, 10000000, func(p *impl.Piece, v int) { p.Len = v }},
		{"Speed", impl.MaxSpeed, 10000, func(p *impl.Piece, v int) { p.Speed = v }},
		{"Brake", impl.MaxBrake, 1000, func(p *impl.Piece, v int) { p.Brake = v }},
	}
	for _, l := range limits {
		if l.most != l.told {
			t.Errorf("the most for %s is %d, not %d", l.what, l.most, l.told)
		}
		for p := range rightNet().Pieces {
			for _, v := range []int{1, 2, l.told - 1, l.told} {
				wantRight(t, l.what, changed(func(n *impl.Net) { l.set(&n.Pieces[p], v) }))
			}
			for _, v := range []int{math.MinInt, -l.told, -1, 0, l.told + 1, math.MaxInt} {
				wantFault(t, l.what, changed(func(n *impl.Net) { l.set(&n.Pieces[p], v) }), 2, p)
			}
		}
	}
}

func TestLimitsOfCounts(t *testing.T) {
	if impl.MaxPieces != 100 || impl.MaxJoints != 120 || impl.MaxName != 20 {
		t.Error("MaxPieces, MaxJoints, MaxName")
	}
	if impl.JEnd != 1 || impl.JPlain != 2 || impl.JSwitch != 3 || impl.JCross != 4 {
		t.Error("the kinds of joints")
	}
}

// Each byte by itself, and as first, middle and last of a name: the document's own letters, written out.
func namesOf() (right, wrong []string) {
	const letters = "abcdefghijklmnopqrstuvwxyz0123456789_"
	for b := range 256 {
		c := string([]byte{byte(b)})
		names := []string{c, c + "ab", "a" + c + "b", "ab" + c}
		if strings.Contains(letters, c) {
			right = append(right, names...)
		} else {
			wrong = append(wrong, names...)
		}
	}
	right = append(right, strings.Repeat("q", impl.MaxName-1), strings.Repeat("q", impl.MaxName))
	wrong = append(wrong, "", strings.Repeat("q", impl.MaxName+1), strings.Repeat("q", 5000), "\u00e9", "\u0161", "a\u212a", "\xc3")
	return right, wrong
}

func TestNames(t *testing.T) {
	right, wrong := namesOf()
	for _, name := range right {
		wantRight(t, "piece "+name, netWithPieceNamed(name))
		for _, j := range []int{atSwitch, atCross} {
			wantRight(t, "joint "+name, netWithJointNamed(j, name))
		}
	}
	for _, name := range wrong {
		wantFault(t, "piece "+name, netWithPieceNamed(name), 2, 2)
		for _, j := range []int{atSwitch, atCross} {
			wantFault(t, "joint "+name, netWithJointNamed(j, name), 4, j)
		}
	}
}

// The other names are longer than a letter, so that no name of one letter stands twice.
func netWithPieceNamed(name string) impl.Net {
	return changed(func(n *impl.Net) {
		for p := range n.Pieces {
			n.Pieces[p].Name += "_other"
		}
		n.Pieces[2].Name = name
	})
}

func netWithJointNamed(j int, name string) impl.Net {
	return changed(func(n *impl.Net) {
		n.Joints[atSwitch].Name += "_other"
		n.Joints[atCross].Name += "_other"
		n.Joints[j].Name = name
	})
}

func TestPieceNamedTwice(t *testing.T) {
	for later := range rightNet().Pieces {
		for ahead := range later {
			wantFault(t, "piece named twice", changed(func(n *impl.Net) { n.Pieces[later].Name = n.Pieces[ahead].Name }), 2, later)
		}
	}
	wantFault(t, "two pairs of names", changed(func(n *impl.Net) {
		n.Pieces[3].Name = "a"
		n.Pieces[4].Name = "b"
	}), 2, 3)
	wantFault(t, "a name ahead of a bad length", changed(func(n *impl.Net) {
		n.Pieces[1].Name = "a"
		n.Pieces[2].Len = 0
	}), 2, 1)
	wantFault(t, "a bad length ahead of a name", changed(func(n *impl.Net) {
		n.Pieces[1].Len = 0
		n.Pieces[2].Name = "a"
	}), 2, 1)
	wantFault(t, "last of the most pieces", func() impl.Net {
		n := ring(impl.MaxPieces)
		n.Pieces[impl.MaxPieces-1].Name = n.Pieces[0].Name
		return n
	}(), 2, impl.MaxPieces-1)
}

func TestJointNames(t *testing.T) {
	for _, j := range []int{atBuffer, atPlain} {
		for _, name := range []string{"y", "w", "a", "_", "Not A Name", "\x00"} {
			wantFault(t, "a name where there is none", changed(func(n *impl.Net) { n.Joints[j].Name = name }), 4, j)
		}
	}
	second := len(rightNet().Joints)
	named := []int{atSwitch, atCross, second + atSwitch, second + atCross}
	for i, later := range named {
		for _, ahead := range named[:i] {
			n := doubleNet()
			n.Joints[later].Name = n.Joints[ahead].Name
			wantFault(t, "joint named twice", n, 4, later)
		}
	}
	n := doubleNet()
	n.Joints[second+atBuffer].Name = "w"
	wantFault(t, "a buffer named as a switch ahead", n, 4, second+atBuffer)
	n.Joints[atBuffer].Name = "w"
	wantFault(t, "a buffer with the name of a switch behind", n, 4, atBuffer)
}

func TestJointKinds(t *testing.T) {
	for j := range rightNet().Joints {
		for _, kind := range []int{math.MinInt, -1, 0, 5, 6, math.MaxInt} {
			wantFault(t, "a Kind that is none", changed(func(n *impl.Net) { n.Joints[j].Kind = kind }), 3, j)
		}
		for kind := impl.JEnd; kind <= impl.JCross; kind++ {
			if kind != rightNet().Joints[j].Kind {
				wantFault(t, "another Kind than its ends", changed(func(n *impl.Net) { n.Joints[j].Kind = kind }), 3, j)
			}
		}
		for count := range 7 {
			if count != len(rightNet().Joints[j].Ends) {
				wantFault(t, "another number of Ends", changed(func(n *impl.Net) { n.Joints[j].Ends = make([]impl.End, count) }), 3, j)
			}
		}
		wantFault(t, "no list of Ends", changed(func(n *impl.Net) { n.Joints[j].Ends = nil }), 3, j)
	}
}

func TestEndsThatThereAreNot(t *testing.T) {
	for j, right := range rightNet().Joints {
		for k := range right.Ends {
			for _, p := range []int{math.MinInt, -1, len(rightNet().Pieces), impl.MaxPieces, math.MaxInt} {
				wantFault(t, "no such Piece", changed(func(n *impl.Net) { n.Joints[j].Ends[k].Piece = p }), 3, j)
			}
			for _, s := range []int{math.MinInt, -1, 2, math.MaxInt} {
				wantFault(t, "no such Side", changed(func(n *impl.Net) { n.Joints[j].Ends[k].Side = s }), 3, j)
			}
		}
	}
}

func TestEndsInNoJoint(t *testing.T) {
	wantFault(t, "no buffer", changed(func(n *impl.Net) { n.Joints = n.Joints[1:] }), 5, 0)
	wantFault(t, "no crossing", changed(func(n *impl.Net) { n.Joints = n.Joints[:atCross] }), 5, 2)
	wantFault(t, "no switch", changed(func(n *impl.Net) { n.Joints = append(n.Joints[:atSwitch], n.Joints[atCross]) }), 5, 1)
	wantFault(t, "a piece in no joint", changed(func(n *impl.Net) { n.Pieces = append(n.Pieces, piece("more")) }), 5, 5)
	wantFault(t, "end 1 of a piece in no joint", changed(func(n *impl.Net) {
		n.Pieces = append(n.Pieces, piece("more"))
		n.Joints = append(n.Joints, joint(impl.JEnd, "", end(5, 0)))
	}), 5, 5)
}

func TestEndsTwice(t *testing.T) {
	for p := range rightNet().Pieces {
		for side := range 2 {
			wantFault(t, "in two joints", changed(func(n *impl.Net) {
				n.Joints = append(n.Joints, joint(impl.JEnd, "", end(p, side)))
			}), 5, p)
		}
	}
	wantFault(t, "twice in one switch, no other end wrong", changed(func(n *impl.Net) {
		n.Joints[atSwitch].Ends[2] = end(2, 0)
		n.Joints = append(n.Joints, joint(impl.JEnd, "", end(3, 0)))
	}), 5, 2)
	wantFault(t, "twice in one crossing, no other end wrong", changed(func(n *impl.Net) {
		n.Joints[atCross].Ends[3] = end(3, 1)
		n.Joints = append(n.Joints, joint(impl.JEnd, "", end(4, 1)))
	}), 5, 3)
	wantFault(t, "twice in one plain joint, no other end wrong", changed(func(n *impl.Net) {
		n.Joints[atPlain].Ends[0] = end(1, 0)
		n.Joints = append(n.Joints, joint(impl.JEnd, "", end(0, 1)))
	}), 5, 1)
	wantFault(t, "one end twice, the other of its piece never", changed(func(n *impl.Net) { n.Joints[atCross].Ends[3] = end(4, 0) }), 5, 4)
	wantFault(t, "three times", impl.Net{
		Pieces: []impl.Piece{piece("a")},
		Joints: []impl.Joint{
			joint(impl.JSwitch, "w", end(0, 1), end(0, 1), end(0, 1)),
			joint(impl.JEnd, "", end(0, 0)),
		},
	}, 5, 0)
}

// Every fault at once, the one of the least code mended each time; of each code two, at places that rise from code to code or fall.
func TestOrderOfFaults(t *testing.T) {
	n := doubleNet()
	n.Pieces = append(n.Pieces, ring(impl.MaxPieces).Pieces...)
	n.Pieces[9].Len = 0
	n.Pieces[7].Name = "A"
	n.Joints[3].Kind = 0
	n.Joints[5].Ends[0].Side = 2
	n.Joints[6].Name = ""
	n.Joints[1].Name = "y"
	n.Joints[4].Ends[0] = end(3, 0)
	wantFault(t, "all of them", n, 1, 0)
	n.Pieces = n.Pieces[:10]
	wantFault(t, "pieces and what is behind them", n, 2, 7)
	n.Pieces[7].Name = "c2"
	wantFault(t, "the other piece", n, 2, 9)
	n.Pieces[9].Len = 1
	wantFault(t, "joints and what is behind them", n, 3, 3)
	n.Joints[3].Kind = impl.JCross
	wantFault(t, "the other joint", n, 3, 5)
	n.Joints[5].Ends[0].Side = 1
	wantFault(t, "names and what is behind them", n, 4, 1)
	n.Joints[1].Name = ""
	wantFault(t, "the other name", n, 4, 6)
	n.Joints[6].Name = "w2"
	wantFault(t, "ends", n, 5, 3)
	n.Joints[4].Ends[0] = end(5, 0)
	wantRight(t, "all mended", n)
}

func TestFirstOfTwoCodes(t *testing.T) {
	wantFault(t, "last piece ahead of the first joint", changed(func(n *impl.Net) {
		n.Pieces[4].Brake = 0
		n.Joints[atBuffer].Kind = 9
	}), 2, 4)
	wantFault(t, "last joint ahead of the first name", changed(func(n *impl.Net) {
		n.Joints[atCross].Ends[3].Piece = -1
		n.Joints[atBuffer].Name = "y"
	}), 3, atCross)
	wantFault(t, "last name ahead of the first end", changed(func(n *impl.Net) {
		n.Joints[atCross].Name = "w"
		n.Joints = append(n.Joints, joint(impl.JEnd, "", end(0, 0)))
	}), 4, atCross)
	wantFault(t, "a Kind ahead of the name of the same joint", changed(func(n *impl.Net) {
		n.Joints[atSwitch].Kind = 9
		n.Joints[atSwitch].Name = ""
	}), 3, atSwitch)
	wantFault(t, "too many joints ahead of a bad piece", func() impl.Net {
		n := cutRing(impl.MaxPieces, impl.MaxJoints-impl.MaxPieces+1)
		n.Pieces[0].Name = ""
		return n
	}(), 1, 0)
}

func TestLies(t *testing.T) {
	n := rightNet()
	for _, lie := range []int{0, 1, 2} {
		if !impl.LiesOk(n, []int{0, 0, lie, 0}) {
			t.Errorf("a switch that lies %d", lie)
		}
	}
	for _, lie := range []int{math.MinInt, -2, -1, 3, 4, 257, math.MaxInt} {
		if impl.LiesOk(n, []int{0, 0, lie, 0}) {
			t.Errorf("a switch that lies %d", lie)
		}
	}
	for _, j := range []int{atBuffer, atPlain, atCross} {
		for _, lie := range []int{math.MinInt, -1, 1, 2, 3, math.MaxInt} {
			lies := []int{0, 0, 1, 0}
			lies[j] = lie
			if impl.LiesOk(n, lies) {
				t.Errorf("joint %d, no switch, that lies %d", j, lie)
			}
		}
	}
}

func TestLiesOfTwoSwitches(t *testing.T) {
	for a := -1; a <= 3; a++ {
		for b := -1; b <= 3; b++ {
			want := a >= 0 && a <= 2 && b >= 0 && b <= 2
			if impl.LiesOk(doubleNet(), []int{0, 0, a, 0, 0, 0, b, 0}) != want {
				t.Errorf("switches that lie %d and %d", a, b)
			}
		}
	}
}

func TestCountOfLies(t *testing.T) {
	for count := range 10 {
		if impl.LiesOk(rightNet(), make([]int, count)) != (count == 4) {
			t.Errorf("%d numbers for 4 joints", count)
		}
	}
	if impl.LiesOk(rightNet(), nil) {
		t.Error("no numbers at all")
	}
	if !impl.LiesOk(ring(impl.MaxPieces), make([]int, impl.MaxPieces)) {
		t.Error("as many joints as pieces at most")
	}
}

// One net for each code: a net that is not right has no lies, not even as many as joints.
func TestLiesOfWrongNets(t *testing.T) {
	wrong := []impl.Net{
		{},
		ring(impl.MaxPieces + 1),
		changed(func(n *impl.Net) { n.Pieces[4].Speed = 0 }),
		changed(func(n *impl.Net) { n.Joints[atCross].Kind = 5 }),
		changed(func(n *impl.Net) { n.Joints[atCross].Name = "w" }),
		changed(func(n *impl.Net) { n.Joints = n.Joints[1:] }),
	}
	for i, n := range wrong {
		if impl.LiesOk(n, make([]int, len(n.Joints))) {
			t.Errorf("wrong net %d", i)
		}
	}
	if impl.LiesOk(impl.Net{}, nil) {
		t.Error("a net of nothing, no lies")
	}
}

// oddNets: nets that a careless look would trip over.
func oddNets() []impl.Net {
	far := []int{math.MinInt, -1, 0, 1, 2, 3, 4, 5, 100, math.MaxInt}
	nets := []impl.Net{{}, {Pieces: make([]impl.Piece, 3)}, {Joints: make([]impl.Joint, 3)}, rightNet(), doubleNet()}
	for _, a := range far {
		for _, b := range far {
			nets = append(nets, changed(func(n *impl.Net) { n.Joints[atSwitch].Ends[1] = end(a, b) }))
			nets = append(nets, changed(func(n *impl.Net) { n.Joints[atCross] = joint(a, "x", end(b, a)) }))
			nets = append(nets, changed(func(n *impl.Net) { n.Joints[atBuffer] = impl.Joint{Kind: a} }))
			nets = append(nets, changed(func(n *impl.Net) { n.Pieces[0] = impl.Piece{Name: "a", Len: a, Speed: b, Brake: a} }))
		}
	}
	return append(nets, ring(1000), impl.Net{Pieces: rightNet().Pieces, Joints: make([]impl.Joint, 100000)})
}

// A panic in either call ends the test by itself.
func TestNothingPanicsAndAnswersStay(t *testing.T) {
	for i, n := range oddNets() {
		first := impl.NetOk(n)
		if impl.NetOk(n) != first {
			t.Errorf("net %d: two answers", i)
		}
		for _, lies := range [][]int{nil, {}, {math.MinInt}, {0, 0, 1, 0}, make([]int, len(n.Joints)), make([]int, len(n.Joints)+1)} {
			ok := impl.LiesOk(n, lies)
			if ok != impl.LiesOk(n, lies) {
				t.Errorf("net %d: two answers for lies", i)
			}
			if ok && first != (impl.Fault{}) {
				t.Errorf("net %d: lies of a net that is not right", i)
			}
		}
	}
}

// Lists with room behind them: what stands there belongs to the caller too.
func roomyNet() impl.Net {
	n := doubleNet()
	n.Pieces = append(n.Pieces, piece("spare"))[:len(n.Pieces)]
	n.Joints = append(n.Joints, joint(impl.JEnd, "spare"))[:len(n.Joints)]
	for j := range n.Joints {
		ends := n.Joints[j].Ends
		n.Joints[j].Ends = append(ends, end(77, 77))[:len(ends)]
	}
	return n
}

// whole is the net with all that stands in the room behind its lists.
func whole(n impl.Net) impl.Net {
	w := impl.Net{Pieces: n.Pieces[:len(n.Pieces)+1], Joints: append([]impl.Joint{}, n.Joints[:len(n.Joints)+1]...)}
	for j := range n.Joints {
		w.Joints[j].Ends = n.Joints[j].Ends[:len(n.Joints[j].Ends)+1]
	}
	return w
}

func TestNothingIsWritten(t *testing.T) {
	changes := []func(n *impl.Net){
		func(n *impl.Net) {},
		func(n *impl.Net) { n.Pieces[9].Name = "a" },
		func(n *impl.Net) { n.Joints[7].Kind = 0 },
		func(n *impl.Net) { n.Joints[7].Name = "x" },
		func(n *impl.Net) { n.Joints[7].Ends[0] = end(0, 0) },
	}
	for i, change := range changes {
		n, same := roomyNet(), roomyNet()
		change(&n)
		change(&same)
		lies := []int{0, 0, 1, 0, 0, 0, 2, 0, 99}
		impl.NetOk(n)
		impl.LiesOk(n, lies[:8])
		if !reflect.DeepEqual(whole(n), whole(same)) {
			t.Errorf("net %d was written into", i)
		}
		if !reflect.DeepEqual(lies, []int{0, 0, 1, 0, 0, 0, 2, 0, 99}) {
			t.Errorf("net %d: lies were written into", i)
		}
	}
}
