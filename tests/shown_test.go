package tests

import (
	"slices"
	"strings"
	"testing"

	"loop.example/footplate/impl"
)

// showing is a world, and the text of it.
type showing struct {
	what   string
	net    impl.Net
	trains []impl.Train
	want   string
}

func showings() []showing {
	y := yard()
	twice := train(spot(pb, 15, -1), 200, step(pc, -1), step(pe, -1), step(pd, 1), step(pb, 1))
	inner := train(spot(pb, 30, 1), 10)
	return []showing{
		{"no trains", y, nil, "a\nb\nc\nd\ne\n"},
		{"an empty list", y, fleet(), "a\nb\nc\nd\ne\n"},
		{"one train", y, fleet(train(spot(pa, 70, 1), 30)), "a A40-70\nb\nc\nd\ne\n"},
		{"looking to end 0", y, fleet(train(spot(pc, 7, -1), 12)), "a\nb\nc A7-19\nd\ne\n"},
		{"over pieces", y, fleet(intoLeft()), "a A95-100\nb A0-60\nc A0-40\nd\ne A0-10\n"},
		{"a whole piece", y, fleet(train(spot(pe, 50, 1), 50)), "a\nb\nc\nd\ne A0-50\n"},
		{"from 0 and to Len", y, fleet(train(spot(pa, 30, 1), 30), train(spot(pb, 60, 1), 1)), "a A0-30\nb B59-60\nc\nd\ne\n"},
		{"the front's part is empty", y, fleet(train(spot(pd, 0, 1), 10, step(pb, 1))), "a\nb A50-60\nc\nd\ne\n"},
		{"two on one piece, the later number first", y, fleet(train(spot(pa, 70, 1), 30), train(spot(pa, 20, 1), 10)), "a A40-70 B10-20\nb\nc\nd\ne\n"},
		{"two on one piece, the earlier number first", y, fleet(train(spot(pa, 20, 1), 10), train(spot(pa, 70, 1), 30)), "a A10-20 B40-70\nb\nc\nd\ne\n"},
		{"two on two pieces", y, fleet(train(spot(pd, 20, 1), 10), train(spot(pa, 70, 1), 30)), "a B40-70\nb\nc\nd A10-20\ne\n"},
		{"the same train twice", y, fleet(inner, inner), "a\nb A20-30 B20-30\nc\nd\ne\n"},
		{"one piece twice", y, fleet(twice), "a\nb A15-60 A25-60\nc A0-40\nd A0-30\ne A0-50\n"},
		{"one piece twice, turned", y, fleet(impl.Turned(y, twice)), "a\nb A25-60 A15-60\nc A0-40\nd A0-30\ne A0-50\n"},
		{"one piece twice, between others", y, fleet(inner, twice, intoLeft()), "a C95-100\nb A20-30 B15-60 B25-60 C0-60\nc B0-40 C0-40\nd B0-30\ne B0-50 C0-10\n"},
		{"twice round", circle(100), fleet(train(spot(0, 50, 1), 250, step(0, 1), step(0, 1))), "p0 A0-50 A0-100 A0-100\n"},
		{"twice round, the tail within", circle(100), fleet(train(spot(0, 50, -1), 220, step(0, -1), step(0, -1))), "p0 A50-100 A0-100 A0-70\n"},
		{"a balloon", balloon(), fleet(train(spot(pa, 90, -1), 90, step(pb, -1), step(pa, 1))), "a A90-100 A80-100\nb A0-60\n"},
	}
}

func wantShown(t *testing.T, what, got, want string) {
	t.Helper()
	if got != want {
		t.Errorf("%s: Shown is %q, not %q", what, got, want)
	}
}

func TestShown(t *testing.T) {
	for _, c := range showings() {
		wantShown(t, c.what, impl.Shown(c.net, c.trains), c.want)
		wantShown(t, c.what+", by the model", modelShown(c.net, c.trains), c.want)
	}
}

func TestShownLetters(t *testing.T) {
	n, trains, _ := aRow(20)
	want := "p0 A40-50 B140-150 C240-250 D340-350 E440-450 F540-550 G640-650 H740-750 I840-850 J940-950 K1040-1050 L1140-1150 M1240-1250 N1340-1350 O1440-1450 P1540-1550 Q1640-1650 R1740-1750 S1840-1850 T1940-1950"
	for count := 20; count >= 0; count-- {
		wantShown(t, "a row", impl.Shown(n, trains[:count]), want+"\n")
		want = want[:max(strings.LastIndexByte(want, ' '), 0)]
	}
}

func TestShownNumbers(t *testing.T) {
	var trains []impl.Train
	for _, at := range []int{1, 9, 10, 11, 99, 100, 1000, 10000, 100000, 1000000, 9999999, 10000000} {
		trains = append(trains, train(spot(0, at, 1), 1))
	}
	want := "p0 A0-1 B8-9 C9-10 D10-11 E98-99 F99-100 G999-1000 H9999-10000 I99999-100000 J999999-1000000 K9999998-9999999 L9999999-10000000\n"
	wantShown(t, "numbers of every length", impl.Shown(circle(impl.MaxLen), trains), want)
	wantShown(t, "the longest train", impl.Shown(circle(impl.MaxLen), fleet(train(spot(0, 5000000, -1), impl.MaxLong))), "p0 A5000000-5100000\n")
}

func TestShownNames(t *testing.T) {
	right, wrong := namesOf()
	for _, name := range right {
		n := yard()
		n.Pieces[pc].Name = name
		if !slices.Contains([]string{"a", "b", "d", "e"}, name) {
			wantShown(t, "a name", impl.Shown(n, fleet(train(spot(pc, 9, 1), 3))), "a\nb\n"+name+" A6-9\nd\ne\n")
		}
	}
	for _, name := range append(wrong, "", " ", "a b", "a ", " a", "\n", "A") {
		n := yard()
		n.Pieces[pc].Name = name
		wantShown(t, "no name", impl.Shown(n, fleet(train(spot(pc, 9, 1), 3))), "")
	}
}

func TestShownOfManyPieces(t *testing.T) {
	n := ring(impl.MaxPieces)
	x := train(spot(99, 30, 1), 250, step(98, 1), step(97, 1), step(96, 1))
	lines := strings.SplitAfter(impl.Shown(n, fleet(train(spot(0, 5, 1), 5), x)), "\n")
	if len(lines) != 101 || lines[100] != "" {
		t.Fatalf("%d lines", len(lines)-1)
	}
	tails := map[int]string{0: " A0-5", 96: " B80-100", 97: " B0-100", 98: " B0-100", 99: " B0-30"}
	for p, line := range lines[:100] {
		wantShown(t, "a line", line, n.Pieces[p].Name+tails[p]+"\n")
	}
}

func TestShownWrongInputs(t *testing.T) {
	y := yard()
	for _, n := range wrongYards() {
		wantShown(t, "a net that is not right", impl.Shown(n, nil), "")
		wantShown(t, "a net that is not right", impl.Shown(n, yardTrains()[:1]), "")
	}
	n, trains, _ := aRow(21)
	wantShown(t, "21 trains", impl.Shown(n, trains), "")
	wantShown(t, "10000 trains", impl.Shown(n, slices.Repeat(trains[:1], 10000)), "")
	if impl.Shown(n, trains[1:]) == "" {
		t.Error("20 trains of the same row")
	}
	for _, no := range append(oddTrains(), train(spot(pa, 70, 1), 71), train(spot(pa, 70, 1), 30, step(pb, 1)), train(spot(pc, 10, 1), 75, step(pb, 1))) {
		if impl.TrainOk(y, no) {
			continue
		}
		for i := range 6 {
			wantShown(t, "one is none", impl.Shown(y, slices.Insert(yardTrains(), i, no)), "")
		}
	}
}

func TestShownAgainstTheModel(t *testing.T) {
	twice := 0
	for i, s := range scenes(67, 5000) {
		if got, want := impl.Shown(s.net, s.trains), modelShown(s.net, s.trains); got != want {
			t.Fatalf("scene %d, %v: Shown is %q, not %q", i, s, got, want)
		}
		twice += number(slices.ContainsFunc(s.trains, overSomePieceTwice))
	}
	if twice < 500 {
		t.Errorf("only %d with a train over one piece twice", twice)
	}
}
