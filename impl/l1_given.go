package impl

const (
	MaxPieces = 100
	MaxJoints = 120
	MaxName   = 20
	MaxLen    = 10000000
	MaxSpeed  = 10000
	MaxBrake  = 1000
)

const (
	JEnd    = 1
	JPlain  = 2
	JSwitch = 3
	JCross  = 4
)

// Piece is a piece of track, with its length, its limit of speed, and how much trains brake on it.
type Piece struct {
	Name  string
	Len   int
	Speed int
	Brake int
}

// End is one of the two ends of a piece, 0 or 1.
type End struct {
	Piece int
	Side  int
}

// Joint is where ends meet: a buffer (one), a plain joint (two), a switch (its tip, left, right), a crossing (two that go through, and two others).
type Joint struct {
	Kind int
	Name string
	Ends []End
}

// Net is a track.
type Net struct {
	Pieces []Piece
	Joints []Joint
}

// Fault is what is wrong with a net, and at which piece or joint.
type Fault struct {
	Code int
	At   int
}

// The codes of faults, in the order in which they are told.
const (
	faultCount = 1
	faultPiece = 2
	faultJoint = 3
	faultName  = 4
	faultEnd   = 5
)

// nowhere is the place of a fault that there is not: 0 is a place already.
const nowhere = -1

// NetOk is the zero value for a net that is right, else its first fault. Each check leans on those before it, so their order is that of the codes.
func NetOk(n Net) Fault {
	if len(n.Pieces) == 0 || len(n.Pieces) > MaxPieces || len(n.Joints) > MaxJoints {
		return Fault{Code: faultCount}
	}
	if p := wrongPiece(n.Pieces); p != nowhere {
		return Fault{Code: faultPiece, At: p}
	}
	if j := wrongJoint(n); j != nowhere {
		return Fault{Code: faultJoint, At: j}
	}
	if j := wrongJointName(n.Joints); j != nowhere {
		return Fault{Code: faultName, At: j}
	}
	if p := wrongEnds(n); p != nowhere {
		return Fault{Code: faultEnd, At: p}
	}
	return Fault{}
}

// shape is a joint that has as many ends as its Kind says. Each kind is a type of its own: what holds for one kind alone is asked by a type switch.
type shape interface {
	ends() []End
}

type buffer struct{ only End }

type plain struct{ one, other End }

type turnout struct{ tip, left, right End }

type crossing struct{ first, second, third, fourth End }

func (b buffer) ends() []End { return []End{b.only} }

func (p plain) ends() []End { return []End{p.one, p.other} }

func (t turnout) ends() []End { return []End{t.tip, t.left, t.right} }

func (c crossing) ends() []End { return []End{c.first, c.second, c.third, c.fourth} }

// shapeOf is false for a Kind that is none, and for another number of Ends than the Kind says.
func shapeOf(j Joint) (shape, bool) {
	e := j.Ends
	switch {
	case j.Kind == JEnd && len(e) == 1:
		return buffer{e[0]}, true
	case j.Kind == JPlain && len(e) == 2:
		return plain{e[0], e[1]}, true
	case j.Kind == JSwitch && len(e) == 3:
		return turnout{e[0], e[1], e[2]}, true
	case j.Kind == JCross && len(e) == 4:
		return crossing{e[0], e[1], e[2], e[3]}, true
	}
	return nil, false
}

func wrongPiece(pieces []Piece) int {
	ahead := map[string]int{}
	for p, piece := range pieces {
		_, twice := ahead[piece.Name]
		if twice || !pieceFits(piece) {
			return p
		}
		ahead[piece.Name] = p
	}
	return nowhere
}

func pieceFits(p Piece) bool {
	return isName(p.Name) && within(p.Len, MaxLen) && within(p.Speed, MaxSpeed) && within(p.Brake, MaxBrake)
}

func within(number, most int) bool { return number >= 1 && number <= most }

// isName looks at bytes, not runes: a text need not be UTF-8.
func isName(text string) bool {
	if !within(len(text), MaxName) {
		return false
	}
	for i := 0; i < len(text); i++ {
		if !isNameByte(text[i]) {
			return false
		}
	}
	return true
}

func isNameByte(b byte) bool {
	return b >= 'a' && b <= 'z' || b >= '0' && b <= '9' || b == '_'
}

func wrongJoint(n Net) int {
	for j, joint := range n.Joints {
		s, ok := shapeOf(joint)
		if !ok || !endsFit(s, len(n.Pieces)) {
			return j
		}
	}
	return nowhere
}

func endsFit(s shape, pieces int) bool {
	for _, e := range s.ends() {
		if e.Piece < 0 || e.Piece >= pieces || e.Side < 0 || e.Side > 1 {
			return false
		}
	}
	return true
}

func wrongJointName(joints []Joint) int {
	ahead := map[string]int{}
	for j, joint := range joints {
		s, ok := shapeOf(joint)
		if !ok || !nameFits(s, joint.Name, ahead) {
			return j
		}
		ahead[joint.Name] = j
	}
	return nowhere
}

func nameFits(s shape, name string, ahead map[string]int) bool {
	switch s.(type) {
	case buffer, plain:
		return name == ""
	}
	_, twice := ahead[name]
	return !twice && isName(name)
}

// wrongEnds counts each side by itself: a side that stands twice does not make up for one that stands nowhere.
func wrongEnds(n Net) int {
	stands := make([][2]int, len(n.Pieces))
	for _, joint := range n.Joints {
		s, ok := shapeOf(joint)
		if !ok {
			continue
		}
		for _, e := range s.ends() {
			stands[e.Piece][e.Side]++
		}
	}
	for p, sides := range stands {
		if sides[0] != 1 || sides[1] != 1 {
			return p
		}
	}
	return nowhere
}

// Spot is a place on a piece, so far from its end 0, looking to its end 1 (Way 1) or 0 (Way -1).
type Spot struct {
	Piece int
	At    int
	Way   int
}

// LiesOk tells whether the net is right and lies has a fitting number for each joint.
func LiesOk(n Net, lies []int) bool {
	k, ok := trackOf(n)
	return ok && k.liesFit(lies)
}

// track is a net that is right, its joints told apart and found by the ends that stand in them.
type track struct {
	pieces []Piece
	shapes []shape
	stands [][2]int
}

// trackOf is false for a net that is not right: only a right one has just one joint at each end.
func trackOf(n Net) (track, bool) {
	if NetOk(n) != (Fault{}) {
		return track{}, false
	}
	k := track{pieces: n.Pieces, stands: make([][2]int, len(n.Pieces))}
	for j, joint := range n.Joints {
		s, ok := shapeOf(joint)
		if !ok {
			return track{}, false
		}
		k.shapes = append(k.shapes, s)
		for _, e := range s.ends() {
			k.stands[e.Piece][e.Side] = j
		}
	}
	return k, true
}

func (k track) liesFit(lies []int) bool {
	if len(lies) != len(k.shapes) {
		return false
	}
	for j, lie := range lies {
		if !lieFits(k.shapes[j], lie) {
			return false
		}
	}
	return true
}

// How a switch lies; a joint that is no switch has lieUnknown.
const (
	lieUnknown = 0
	lieLeft    = 1
	lieRight   = 2
)

func lieFits(s shape, lie int) bool {
	switch s.(type) {
	case turnout:
		return lie == lieUnknown || lie == lieLeft || lie == lieRight
	}
	return lie == lieUnknown
}

// What bars the way over a joint.
const (
	barNone = iota
	barBuffer
	barUnknown
	barAgainst
)

func (k track) jointAt(e End) int { return k.stands[e.Piece][e.Side] }

// over is the end to which one comes over the joint at this end when it lies so, or what bars the way.
func (k track) over(from End, lie int) (End, int) {
	switch s := k.shapes[k.jointAt(from)].(type) {
	case plain:
		return opposite(from, s.one, s.other), barNone
	case turnout:
		return s.over(from, lie)
	case crossing:
		if from == s.first || from == s.second {
			return opposite(from, s.first, s.second), barNone
		}
		return opposite(from, s.third, s.fourth), barNone
	}
	return End{}, barBuffer
}

func opposite(from, one, other End) End {
	if from == one {
		return other
	}
	return one
}

func (t turnout) over(from End, lie int) (End, int) {
	if lie == lieUnknown {
		return End{}, barUnknown
	}
	branch := t.left
	if lie == lieRight {
		branch = t.right
	}
	switch from {
	case t.tip:
		return branch, barNone
	case branch:
		return t.tip, barNone
	}
	return End{}, barAgainst
}
