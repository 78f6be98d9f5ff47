package tests

import (
	"math"
	"reflect"
	"slices"
	"testing"

	"loop.example/footplate/impl"
)

func post(piece, at int) impl.Post { return impl.Post{Piece: piece, At: at} }

func passing(far, post, way int) impl.Pass { return impl.Pass{Far: far, Post: post, Way: way} }

// counted is a train with axles that moves by posts, and what is to come of it. Lie is how the net's switch lies.
type counted struct {
	what  string
	net   impl.Net
	lie   int
	train impl.Train
	axles []int
	posts []impl.Post
	far   int
	want  []impl.Pass
}

func countedOnOnePiece() []counted {
	y := yard()
	up, down := train(spot(pa, 50, 1), 30), train(spot(pa, 50, -1), 30)
	return []counted{
		{"one axle, one post", y, 0, up, []int{0}, []impl.Post{post(pa, 60)}, 20, []impl.Pass{passing(10, 0, 1)}},
		{"to end 0", y, 0, down, []int{0}, []impl.Post{post(pa, 40)}, 20, []impl.Pass{passing(10, 0, -1)}},
		{"just so far", y, 0, up, []int{0}, []impl.Post{post(pa, 60)}, 10, []impl.Pass{passing(10, 0, 1)}},
		{"one less", y, 0, up, []int{0}, []impl.Post{post(pa, 60)}, 9, nil},
		{"by one", y, 0, up, []int{0}, []impl.Post{post(pa, 51)}, 1, []impl.Pass{passing(1, 0, 1)}},
		{"far 0", y, 0, up, []int{0, 10, 30}, []impl.Post{post(pa, 50), post(pa, 40), post(pa, 20)}, 0, nil},
		{"there from the start", y, 0, up, []int{0}, []impl.Post{post(pa, 50)}, 50, nil},
		{"there from the start, the last axle", y, 0, up, []int{30}, []impl.Post{post(pa, 20)}, 50, nil},
		{"there from the start, but for the axle behind", y, 0, up, []int{0, 5}, []impl.Post{post(pa, 50)}, 50, []impl.Pass{passing(5, 0, 1)}},
		{"behind the axle", y, 0, up, []int{10}, []impl.Post{post(pa, 39), post(pa, 1)}, 50, nil},
		{"behind the train", y, 0, up, []int{0, 30}, []impl.Post{post(pa, 19), post(pa, 1)}, 50, nil},
		{"under the train", y, 0, up, []int{0, 30}, []impl.Post{post(pa, 35)}, 50, []impl.Pass{passing(15, 0, 1)}},
		{"under the train, to end 0", y, 0, down, []int{0, 30}, []impl.Post{post(pa, 65)}, 50, []impl.Pass{passing(15, 0, -1)}},
		{"at 0 and at Long", y, 0, up, []int{0, 30}, []impl.Post{post(pa, 55)}, 50, []impl.Pass{passing(5, 0, 1), passing(35, 0, 1)}},
		{"just ahead of the ends", y, 0, train(spot(pa, 31, 1), 30), []int{0, 30}, []impl.Post{post(pa, 2), post(pa, 99)}, 69, []impl.Pass{passing(1, 0, 1), passing(68, 1, 1)}},
		{"on another piece", y, 0, up, []int{0}, []impl.Post{post(pb, 40), post(pe, 49)}, 50, nil},
		{"no axles", y, 0, up, nil, []impl.Post{post(pa, 60)}, 20, nil},
		{"no posts", y, 0, up, []int{0, 30}, nil, 20, nil},
	}
}

func countedInOrder() []counted {
	y := yard()
	up := train(spot(pa, 50, 1), 30)
	both := []impl.Pass{passing(10, 0, 1), passing(10, 1, 1), passing(10, 0, 1), passing(10, 1, 1)}
	return []counted{
		{"axles at one place", y, 0, up, []int{0, 0, 0}, []impl.Post{post(pa, 60)}, 20, []impl.Pass{passing(10, 0, 1), passing(10, 0, 1), passing(10, 0, 1)}},
		{"posts at one place", y, 0, up, []int{0}, []impl.Post{post(pa, 60), post(pa, 60), post(pa, 60)}, 20, []impl.Pass{passing(10, 0, 1), passing(10, 1, 1), passing(10, 2, 1)}},
		{"both at one place: by axles, then by posts", y, 0, up, []int{0, 0}, []impl.Post{post(pa, 60), post(pa, 60)}, 20, both},
		{"by Far, not by posts", y, 0, up, []int{0}, []impl.Post{post(pa, 70), post(pa, 60), post(pa, 65)}, 20, []impl.Pass{passing(10, 1, 1), passing(15, 2, 1), passing(20, 0, 1)}},
		{"by Far, not by axles", y, 0, up, []int{0, 10}, []impl.Post{post(pa, 49), post(pa, 65)}, 30, []impl.Pass{passing(9, 0, 1), passing(15, 1, 1), passing(25, 1, 1)}},
		{"of one Far by axles", y, 0, up, []int{0, 10, 20}, []impl.Post{post(pa, 40), post(pa, 50), post(pa, 60)}, 10, []impl.Pass{passing(10, 2, 1), passing(10, 1, 1), passing(10, 0, 1)}},
		{"of one Far by axles, posts the other way round", y, 0, up, []int{0, 10, 20}, []impl.Post{post(pa, 60), post(pa, 50), post(pa, 40)}, 10, []impl.Pass{passing(10, 0, 1), passing(10, 1, 1), passing(10, 2, 1)}},
		{"all at once", y, 1, train(spot(pb, 10, 1), 50, step(pa, 1)), []int{0, 20, 20, 50}, []impl.Post{post(pa, 80), post(pb, 30), post(pb, 30), post(pc, 5)}, 60, []impl.Pass{
			passing(20, 1, 1), passing(20, 2, 1), passing(20, 0, 1),
			passing(40, 1, 1), passing(40, 2, 1), passing(40, 1, 1), passing(40, 2, 1),
			passing(55, 3, 1),
		}},
	}
}

func countedOverJoints() []counted {
	y := yard()
	short := train(spot(pa, 90, 1), 20)
	return []counted{
		{"over a plain joint", y, 0, short, []int{0, 20}, []impl.Post{post(pb, 1), post(pa, 99)}, 31, []impl.Pass{passing(9, 1, 1), passing(11, 0, 1), passing(29, 1, 1), passing(31, 0, 1)}},
		{"over a plain joint to end 0", y, 0, train(spot(pb, 10, -1), 20), []int{0, 20}, []impl.Post{post(pb, 1), post(pa, 99)}, 31, []impl.Pass{passing(9, 0, -1), passing(11, 1, -1), passing(29, 0, -1), passing(31, 1, -1)}},
		{"from just at a joint", y, 0, train(spot(pa, 100, 1), 20), []int{0, 20}, []impl.Post{post(pb, 1), post(pa, 81)}, 1, []impl.Pass{passing(1, 0, 1), passing(1, 1, 1)}},
		{"from just behind a joint", y, 0, train(spot(pb, 0, 1), 20, step(pa, 1)), []int{0, 20}, []impl.Post{post(pb, 1), post(pa, 81)}, 1, []impl.Pass{passing(1, 0, 1), passing(1, 1, 1)}},
		{"into a piece that looks the other way", y, 0, train(spot(pd, 25, 1), 20), []int{0, 20}, []impl.Post{post(pe, 45), post(pd, 20)}, 40, []impl.Pass{passing(10, 0, -1), passing(15, 1, 1), passing(30, 0, -1)}},
		{"axles on pieces that look otherwise", y, 0, train(spot(pe, 40, -1), 30, step(pd, 1)), []int{0, 30}, []impl.Post{post(pd, 15), post(pe, 35)}, 5, []impl.Pass{passing(5, 1, -1), passing(5, 0, 1)}},
		{"onto the left", y, 1, train(spot(pb, 55, 1), 20), []int{0}, []impl.Post{post(pd, 5), post(pc, 5)}, 20, []impl.Pass{passing(10, 1, 1)}},
		{"onto the right", y, 2, train(spot(pb, 55, 1), 20), []int{0}, []impl.Post{post(pd, 5), post(pc, 5)}, 20, []impl.Pass{passing(10, 0, 1)}},
		{"out of the left", y, 1, train(spot(pc, 5, -1), 20), []int{0, 10}, []impl.Post{post(pb, 50), post(pc, 10), post(pd, 10)}, 20, []impl.Pass{passing(5, 1, -1), passing(15, 0, -1)}},
		{"the tail over pieces", y, 1, intoLeft(), []int{100, 115}, []impl.Post{post(pa, 99), post(pb, 1), post(pb, 15)}, 20, []impl.Pass{passing(4, 0, 1), passing(5, 2, 1), passing(6, 1, 1), passing(20, 2, 1)}},
	}
}

func countedRound() []counted {
	c := circle(100)
	once := train(spot(0, 60, 1), 30)
	return []counted{
		{"one post twice", c, 0, once, []int{0}, []impl.Post{post(0, 50)}, 250, []impl.Pass{passing(90, 0, 1), passing(190, 0, 1)}},
		{"one post three times, by the last axle", c, 0, once, []int{0, 30}, []impl.Post{post(0, 50)}, 250, []impl.Pass{passing(20, 0, 1), passing(90, 0, 1), passing(120, 0, 1), passing(190, 0, 1), passing(220, 0, 1)}},
		{"one post twice to end 0", c, 0, train(spot(0, 60, -1), 30), []int{0}, []impl.Post{post(0, 50)}, 110, []impl.Pass{passing(10, 0, -1), passing(110, 0, -1)}},
		{"there from the start, and come to once more", c, 0, once, []int{0}, []impl.Post{post(0, 60)}, 100, []impl.Pass{passing(100, 0, 1)}},
		{"two axles at one post at once", c, 0, train(spot(0, 50, 1), 150, step(0, 1)), []int{0, 100}, []impl.Post{post(0, 70)}, 100, []impl.Pass{passing(20, 0, 1), passing(20, 0, 1)}},
		{"the last axle over one piece twice", c, 0, train(spot(0, 50, 1), 150, step(0, 1)), []int{150}, []impl.Post{post(0, 70)}, 200, []impl.Pass{passing(70, 0, 1), passing(170, 0, 1)}},
	}
}

func countedToBars() []counted {
	y := yard()
	up := train(spot(pa, 50, -1), 30)
	return []counted{
		{"as far as a buffer", y, 0, up, []int{0, 30}, []impl.Post{post(pa, 1), post(pa, 30), post(pa, 29)}, 999, []impl.Pass{passing(20, 1, -1), passing(21, 2, -1), passing(49, 0, -1), passing(50, 1, -1)}},
		{"as far as a switch with 0", y, 0, train(spot(pb, 40, 1), 10), []int{0, 10}, []impl.Post{post(pb, 51), post(pb, 50), post(pc, 1), post(pd, 1)}, 100, []impl.Pass{passing(10, 1, 1), passing(11, 0, 1), passing(20, 1, 1)}},
		{"as far as a switch that lies otherwise", y, 1, train(spot(pd, 10, -1), 10), []int{0, 10}, []impl.Post{post(pd, 9), post(pd, 10), post(pb, 59)}, 100, []impl.Pass{passing(1, 0, -1), passing(10, 1, -1)}},
		{"from just at a buffer", y, 0, train(spot(pa, 0, -1), 30), []int{0, 30}, []impl.Post{post(pa, 1), post(pa, 29), post(pa, 30)}, 100, nil},
		{"it does not sit", y, 2, intoLeft(), []int{0}, []impl.Post{post(pe, 20)}, 50, nil},
		{"it does not sit on a switch with 0", y, 0, intoLeft(), []int{0}, []impl.Post{post(pe, 20)}, 50, nil},
		{"and when it does", y, 1, intoLeft(), []int{0}, []impl.Post{post(pe, 20)}, 50, []impl.Pass{passing(10, 0, 1)}},
	}
}

func allCounted() []counted {
	return slices.Concat(countedOnOnePiece(), countedInOrder(), countedOverJoints(), countedRound(), countedToBars())
}

func wantPasses(t *testing.T, what string, got, want []impl.Pass) {
	t.Helper()
	if !slices.Equal(got, want) {
		t.Errorf("%s: Passes is %v, not %v", what, got, want)
	}
}

func TestPasses(t *testing.T) {
	for _, c := range allCounted() {
		lies := liesOf(c.net, c.lie)
		wantPasses(t, c.what, impl.Passes(c.net, lies, c.train, c.axles, c.posts, c.far), c.want)
		wantPasses(t, c.what+", by the model", modelPasses(c.net, lies, c.train, c.axles, c.posts, c.far), c.want)
	}
}

// A train that has no room in Back passes what it comes to ahead of that. Its round is 1000: three of its axles stand on one place.
func TestPassesWithTheMostSteps(t *testing.T) {
	n, x := roundAndRound(t, 100, 5, 1, 2005)
	posts := []impl.Post{post(7, 8), post(8, 1), post(7, 3)}
	want := []impl.Pass{passing(3, 0, 1), passing(3, 2, 1), passing(3, 0, 1), passing(3, 0, 1)}
	wantPasses(t, "the most steps", impl.Passes(n, make([]int, 100), x, []int{0, 5, 1000, 2000}, posts, 1000), want)
}

// A hundred thousand behind the front, and the farthest move.
func TestPassesOfTheLongest(t *testing.T) {
	n := circle(impl.MaxLen)
	x := train(spot(0, 9995000, 1), 100000)
	posts := []impl.Post{post(0, 9895001), post(0, 9895000), post(0, 9999999), post(0, 5000), post(0, 5001), post(0, 1)}
	want := []impl.Pass{passing(1, 0, 1), passing(4999, 2, 1), passing(5001, 5, 1), passing(10000, 3, 1)}
	wantPasses(t, "the longest", impl.Passes(n, []int{0}, x, []int{0, 100000}, posts, 10000), want)
}

func TestCountsOfAxlesAndPosts(t *testing.T) {
	if impl.MaxAxles != 60 || impl.MaxPosts != 60 {
		t.Error("MaxAxles, MaxPosts")
	}
	y := yard()
	x := train(spot(pa, 50, 1), 30)
	lies := yardLies(0)
	for _, axles := range []int{59, 60, 61, 62, 1000} {
		for _, posts := range []int{59, 60, 61, 62, 1000} {
			got := impl.Passes(y, lies, x, make([]int, axles), slices.Repeat([]impl.Post{post(pa, 60)}, posts), 20)
			want := axles * posts
			if axles > 60 || posts > 60 {
				want = 0
			}
			if len(got) != want {
				t.Errorf("%d axles and %d posts: %d passings", axles, posts, len(got))
			}
			for i, p := range got {
				if p != passing(10, i%posts, 1) {
					t.Fatalf("%d axles and %d posts: passing %d is %v", axles, posts, i, p)
				}
			}
		}
	}
	if got := impl.Passes(y, lies, x, make([]int, 61), nil, 20); len(got) != 0 {
		t.Error("too many axles, no posts")
	}
}

// Many axles between few posts and many: what so many lines merge to is in order.
func TestManyAxlesAndPosts(t *testing.T) {
	d := dice{state: 59}
	count := 0
	for i := range 60 {
		n := ring(1 + d.roll(3))
		for p := range n.Pieces {
			n.Pieces[p].Len = 20 + d.roll(80)
		}
		lies := make([]int, len(n.Joints))
		x := impl.Place(n, lies, d.spot(n), 200).Train
		axles, posts := make([]int, 60), make([]impl.Post, 1+i)
		for a := range axles {
			axles[a] = d.roll(201)
		}
		slices.Sort(axles)
		for k := range posts {
			p := d.roll(len(n.Pieces))
			posts[k] = post(p, 1+d.roll(n.Pieces[p].Len-1))
		}
		got := impl.Passes(n, lies, x, axles, posts, 50)
		wantPasses(t, "many", got, modelPasses(n, lies, x, axles, posts, 50))
		count += len(got)
	}
	if count < 20000 {
		t.Errorf("only %d passings", count)
	}
}

func wantNoPasses(t *testing.T, what string, got []impl.Pass) {
	t.Helper()
	if len(got) != 0 {
		t.Errorf("%s: Passes is %v", what, got)
	}
}

func TestAxlesThatAreNotAsSaid(t *testing.T) {
	y := yard()
	x := train(spot(pb, 10, 1), 30, step(pa, 1))
	posts := []impl.Post{post(pb, 11), post(pb, 20), post(pa, 85)}
	for _, axles := range [][]int{{0}, {30}, {0, 30}, {5, 5}, {0, 0, 30, 30}, {29, 30}, {7, 12, 12, 25}} {
		if got := impl.Passes(y, yardLies(0), x, axles, posts, 40); len(got) == 0 {
			t.Errorf("axles %v: nothing", axles)
		}
	}
	for _, axles := range [][]int{{-1}, {31}, {-1, 5}, {0, 31}, {5, 4}, {30, 0}, {0, 10, 9}, {10, 9, 11}, {0, 5, -1}, {0, 5, 31}, {0, 31, 5}, {math.MinInt}, {math.MaxInt}, {0, math.MinInt}, {0, math.MaxInt}, {math.MaxInt, math.MinInt}, {math.MinInt, math.MaxInt}} {
		wantNoPasses(t, "axles", impl.Passes(y, yardLies(0), x, axles, posts, 40))
	}
}

func TestPostsThatAreNotAsSaid(t *testing.T) {
	y := yard()
	x := train(spot(pb, 10, 1), 30, step(pa, 1))
	right := post(pb, 20)
	for p, piece := range y.Pieces {
		for _, at := range []int{1, piece.Len - 1} {
			if got := impl.Passes(y, yardLies(1), x, []int{0}, []impl.Post{post(p, at), right}, 40); len(got) == 0 {
				t.Errorf("piece %d, at %d: nothing", p, at)
			}
		}
		for _, at := range []int{math.MinInt, -piece.Len, -1, 0, piece.Len, piece.Len + 1, math.MaxInt} {
			for _, posts := range [][]impl.Post{{post(p, at), right}, {right, post(p, at)}, {right, post(p, at), right}} {
				wantNoPasses(t, "a post's At", impl.Passes(y, yardLies(1), x, []int{0}, posts, 40))
			}
		}
	}
	for _, p := range []int{math.MinInt, -1, 5, 6, 100, math.MaxInt} {
		for _, posts := range [][]impl.Post{{post(p, 20), right}, {right, post(p, 20)}} {
			wantNoPasses(t, "a post's Piece", impl.Passes(y, yardLies(1), x, []int{0}, posts, 40))
		}
	}
	small := smallYard()
	y1 := train(spot(pb, 0, 1), 2, step(pa, 1))
	if got := impl.Passes(small, yardLies(1), y1, []int{0}, []impl.Post{post(pb, 1)}, 2); len(got) != 1 {
		t.Errorf("a piece of 2: %v", got)
	}
	for at := range 3 {
		wantNoPasses(t, "a piece of 1", impl.Passes(small, yardLies(1), y1, []int{0}, []impl.Post{post(pb, 1), post(pc, at)}, 2))
	}
}

func TestPassesWhenMoveHasCode5(t *testing.T) {
	y := yard()
	x, axles, posts := train(spot(pa, 50, 1), 30), []int{0}, []impl.Post{post(pa, 60)}
	wantPasses(t, "as it is", impl.Passes(y, yardLies(0), x, axles, posts, 10000), []impl.Pass{passing(10, 0, 1)})
	for _, far := range []int{math.MinInt, -1, 10001, math.MaxInt} {
		wantNoPasses(t, "far", impl.Passes(y, yardLies(0), x, axles, posts, far))
	}
	for _, lies := range [][]int{nil, {0, 0, 0}, {0, 0, 3, 0}, {0, 0, -1, 0}, {0, 1, 0, 0}, {0, 0, 0, 0, 0}} {
		wantNoPasses(t, "lies", impl.Passes(y, lies, x, axles, posts, 20))
	}
	for _, no := range append(oddTrains(), train(spot(pa, 50, 1), 51), train(spot(pa, 50, 1), 30, step(pb, 1))) {
		if !impl.TrainOk(y, no) {
			wantNoPasses(t, "what is no train", impl.Passes(y, yardLies(0), no, axles, posts, 20))
		}
	}
	for _, n := range wrongYards() {
		wantNoPasses(t, "a net that is not right", impl.Passes(n, yardLies(0), x, axles, posts, 20))
	}
}

func TestPassesAgainstTheModel(t *testing.T) {
	d := dice{state: 41}
	seen := map[string]int{}
	for _, m := range movers(43, 12000) {
		axles, posts := d.axles(m.train.Long), d.posts(m.net)
		got, want := impl.Passes(m.net, m.lies, m.train, axles, posts, m.far), modelPasses(m.net, m.lies, m.train, axles, posts, m.far)
		if !slices.Equal(got, want) {
			t.Fatalf("%v axles %v posts %v: Passes is %v, not %v", m, axles, posts, got, want)
		}
		seen["passings"] += len(want)
		seen["moves with passings"] += number(len(want) > 0)
		seen["moves without any"] += number(len(want) == 0)
		for i := 1; i < len(want); i++ {
			seen["several at one Far"] += number(want[i].Far == want[i-1].Far)
			seen["several at one Far, a post of lower number"] += number(want[i].Far == want[i-1].Far && want[i].Post < want[i-1].Post)
		}
	}
	for _, what := range []string{"passings", "moves with passings", "moves without any", "several at one Far", "several at one Far, a post of lower number"} {
		if seen[what] < 1000 {
			t.Errorf("only %d: %s", seen[what], what)
		}
	}
}

// P6: in two moves the passings are those of one, with Far counted on.
func TestPassesInTwoMoves(t *testing.T) {
	d := dice{state: 47}
	count := 0
	for _, m := range movers(53, 6000) {
		axles, posts := d.axles(m.train.Long), d.posts(m.net)
		whole := impl.Passes(m.net, m.lies, m.train, axles, posts, m.far)
		for range 3 {
			first := d.roll(m.far + 1)
			moved := impl.Move(m.net, m.lies, m.train, first)
			parted := slices.Clone(impl.Passes(m.net, m.lies, m.train, axles, posts, first))
			for _, p := range impl.Passes(m.net, m.lies, moved.Train, axles, posts, m.far-first) {
				p.Far += moved.Far
				parted = append(parted, p)
			}
			if !slices.Equal(parted, whole) {
				t.Fatalf("%v axles %v posts %v, first %d: Passes is %v, at once %v", m, axles, posts, first, parted, whole)
			}
			count += len(whole)
		}
	}
	if count < 20000 {
		t.Errorf("only %d passings", count)
	}
}

func TestPassesAreNewMemory(t *testing.T) {
	for _, c := range allCounted() {
		x, same := roomyTrain(c.train), roomyTrain(c.train)
		lies, axles, posts := roomy(liesOf(c.net, c.lie), 99), roomy(c.axles, 98), roomy(c.posts, post(97, 97))
		sameLies, sameAxles, samePosts := slices.Clone(lies[:cap(lies)]), slices.Clone(axles[:cap(axles)]), slices.Clone(posts[:cap(posts)])
		for range 2 {
			got, other := impl.Passes(c.net, lies, x, axles, posts, c.far), impl.Passes(c.net, lies, x, axles, posts, c.far)
			wantPasses(t, c.what+", again", got, c.want)
			slices.Reverse(got)
			fill(got, passing(-5, -5, -5))
			wantPasses(t, c.what+", the other answer", other, c.want)
			if !reflect.DeepEqual(x, same) || !slices.Equal(x.Back[:len(x.Back)+1], same.Back[:len(same.Back)+1]) {
				t.Errorf("%s: the train was written into: %v", c.what, x)
			}
			if !slices.Equal(lies[:cap(lies)], sameLies) || !slices.Equal(axles[:cap(axles)], sameAxles) || !slices.Equal(posts[:cap(posts)], samePosts) {
				t.Errorf("%s: lies, axles or posts were written into", c.what)
			}
		}
	}
}

func TestMovesWriteNothingIntoNets(t *testing.T) {
	trains := []impl.Train{train(spot(pb, 50, 1), 120, step(pa, 1)), train(spot(pc, 0, 1), 150, step(pb, 1), step(pa, 1)), train(spot(pa, 50, -1), 40), {}}
	for i, x := range trains {
		for _, far := range []int{-1, 0, 10, 500} {
			n, same := roomyNet(), roomyNet()
			lies := []int{0, 0, 1, 0, 0, 0, 2, 0, 99}
			m := impl.Move(n, lies[:8], x, far)
			fill(m.Train.Back, step(-5, -5))
			fill(m.Over, part(-5, -5, -5))
			fill(impl.Passes(n, lies[:8], x, []int{0, 40}, []impl.Post{post(pa, 40), post(pc, 60)}, far), passing(-5, -5, -5))
			if !reflect.DeepEqual(whole(n), whole(same)) {
				t.Errorf("train %d, %d: the net was written into", i, far)
			}
			if !slices.Equal(lies, []int{0, 0, 1, 0, 0, 0, 2, 0, 99}) {
				t.Errorf("train %d, %d: lies were written into", i, far)
			}
		}
	}
}

// A panic in any call ends the test by itself.
func TestNothingPanicsWithMoves(t *testing.T) {
	numbers := []int{math.MinInt, -1, 0, 1, 50, 10000, 10001, math.MaxInt}
	trains := oddTrains()
	for i, n := range oddNets() {
		if len(n.Joints) > 200 {
			continue
		}
		wrong := impl.NetOk(n) != (impl.Fault{})
		all := trains
		if wrong {
			all = trains[i%7 : 20+i%7]
		}
		for k, x := range all {
			far := numbers[(i+k)%len(numbers)]
			a, b := numbers[k%len(numbers)], numbers[(k/2)%len(numbers)]
			for _, lies := range [][]int{nil, {math.MinInt, math.MaxInt}, make([]int, len(n.Joints)), {0, 0, 1, 0}, {0, 0, math.MaxInt, 0}} {
				m := impl.Move(n, lies, x, far)
				given := impl.LiesOk(n, lies) && impl.TrainOk(n, x) && far >= 0 && far <= impl.MaxFar
				if given == (m.Code == 5) || !given && !sameMoved(m, impl.Moved{Code: 5}) {
					t.Errorf("net %d, %v, %d: Move is %v", i, x, far, m)
				}
				if !sameMoved(m, impl.Move(n, lies, x, far)) {
					t.Errorf("net %d, %v, %d: two answers", i, x, far)
				}
				for _, c := range []counted{
					{},
					{axles: []int{a}, posts: []impl.Post{post(a, 50)}},
					{axles: []int{0, a, b}, posts: []impl.Post{post(0, a), post(b, b)}},
					{axles: []int{0, 10}, posts: []impl.Post{post(0, 60), post(1, 60), post(2, a)}},
				} {
					got := impl.Passes(n, lies, x, c.axles, c.posts, far)
					if len(got) > 0 && (m.Code == 4 || m.Code == 5) || !slices.Equal(got, impl.Passes(n, lies, x, c.axles, c.posts, far)) {
						t.Errorf("net %d, %v, %d: Passes is %v", i, x, far, got)
					}
				}
			}
		}
	}
}
