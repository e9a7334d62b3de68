package shape_test

import (
	"slices"
	"strings"
	"testing"

	"joinery/api"
	"joinery/node"
	"joinery/shape"
)

// limits are trees that are just as great as may be made.
func limits() []*node.Node {
	l := []*node.Node{even(api.MaxBeads, 5, func(l *node.Node, place int, r *node.Node) *node.Node {
		return node.New(l, int64(place), -int64(place%100), 0, r)
	})}
	for way := range ways {
		l = append(l, deepTree(api.MaxDeep, way, nil), deepTree(api.MaxDeep-1, way, leaf(1, 2, 3)))
	}
	return l
}

// drawnTrees are trees of any shapes, and trees that were made of any that there were, so that nodes stand in many.
func drawnTrees() []*node.Node {
	c := chance(13)
	var l []*node.Node
	for count := range 120 {
		l = append(l, c.drawn(count))
	}
	for range 200 {
		x := above(l[c.below(len(l))], c.below(99), l[c.below(len(l))])
		if x.Size() < 2000 {
			l = append(l, x)
		}
	}
	return l
}

// TestThereAndBack (P11.3): what is made of a tree's beads, and what is read of its line, is the same as that tree; the beads of what was made, and the line of what was read, are those that they were.
func TestThereAndBack(t *testing.T) {
	for _, x := range slices.Concat(trees(), drawnTrees(), limits()) {
		l, s := shape.List(x), shape.Line(x)
		made, e := shape.Make(l...)
		if e != api.OK || !shape.Same(made, x) || !shape.Same(x, made) {
			t.Errorf("%s: %v, made %s", short(s), e, short(shape.Line(made)))
		}
		read, e := shape.Read(s)
		if e != api.OK || !shape.Same(read, x) || !shape.Same(read, made) {
			t.Errorf("%s: %v, read %s", short(s), e, short(shape.Line(read)))
		}
		if !slices.Equal(shape.List(made), l) || !slices.Equal(shape.List(read), l) {
			t.Errorf("%s: the beads are not those that they were", short(s))
		}
		if shape.Line(made) != s || shape.Line(read) != s {
			t.Errorf("%s: the line is not what it was", short(s))
		}
		seeTree(t, made, x)
		seeTree(t, read, x)
	}
}

// TestThereAndBackAgain (P11.3): beads and lines that were not told of any tree come back, beads with what is their Size and Sum.
func TestThereAndBackAgain(t *testing.T) {
	for _, s := range someLines() {
		x, e := shape.Read(s)
		if got := shape.Line(x); e != api.OK || got != s {
			t.Errorf("%s became %s, %v", s, got, e)
		}
	}
	l := []api.Bead{{Key: 4, Val: 1, Tag: 9, Right: true}, {Key: 4, Val: 2, Left: true, Right: true}, {Key: -1, Val: 3, Right: true}, {Key: 5, Val: 4}, {Key: 6, Val: -30}}
	want := slices.Clone(l)
	for k, sum := range []int64{-20, -21, 7, 4, -30} {
		want[k].Sum, want[k].Size = sum, []int{5, 4, 2, 1, 1}[k]
	}
	for _, beads := range [][]api.Bead{l, want} {
		x, e := shape.Make(beads...)
		if got := shape.List(x); e != api.OK || !slices.Equal(got, want) {
			t.Errorf("%v became %v, %v", beads, got, e)
		}
	}
}

// TestUnlikeLines (P11.3): trees that are not the same have unlike lines and unlike beads, and those that are have the same.
func TestUnlikeLines(t *testing.T) {
	l := slices.Concat(trees(), drawnTrees()[:60])
	var lines []string
	var beads [][]api.Bead
	for _, x := range l {
		lines, beads = append(lines, shape.Line(x)), append(beads, shape.List(x))
	}
	for k, x := range l {
		for m, y := range l {
			same := shape.Same(x, y)
			if same != (lines[k] == lines[m]) || same != slices.Equal(beads[k], beads[m]) {
				t.Errorf("%s and %s: %t", short(lines[k]), short(lines[m]), same)
			}
		}
	}
}

// seen is what a node tells.
type seen struct {
	left, right   *node.Node
	key, val, sum int64
	tag           uint64
	size          int
}

// note writes down what all nodes of a tree tell.
func note(x *node.Node, at map[*node.Node]seen) {
	if _, is := at[x]; is || x == nil {
		return
	}
	at[x] = seen{x.Left(), x.Right(), x.Key(), x.Val(), x.Sum(), x.Tag(), x.Size()}
	note(x.Left(), at)
	note(x.Right(), at)
}

// TestTreesStay (R5): no call changes a tree, and none makes one that has a node of it.
func TestTreesStay(t *testing.T) {
	for _, x := range trees() {
		then, now, others := map[*node.Node]seen{}, map[*node.Node]seen{}, map[*node.Node]seen{}
		note(x, then)
		made, _ := shape.Make(shape.List(x)...)
		read, _ := shape.Read(shape.Line(x))
		shape.Same(x, made)
		shape.Same(read, x)
		note(x, now)
		for n, was := range then {
			if now[n] != was {
				t.Errorf("%+v became %+v", was, now[n])
			}
		}
		note(made, others)
		note(read, others)
		for n := range others {
			if _, is := then[n]; is {
				t.Errorf("%s: a node of the old tree stands in a new one", lineOf(x))
			}
		}
	}
}

// roomy are beads at the front of greater memory, so that a write behind their end can be seen.
func roomy(l []api.Bead) (piece, whole []api.Bead) {
	whole = append(slices.Clone(l), api.Bead{Key: 777}, api.Bead{Key: 778, Left: true}, api.Bead{Key: 779, Right: true})
	return whole[:len(l)], whole
}

// scribble writes all over beads, and behind their end as far as their memory goes.
func scribble(l []api.Bead) {
	l = l[:cap(l)]
	for k := range l {
		l[k] = api.Bead{Key: 99, Val: 98, Sum: 97, Size: 96, Tag: 95, Left: true, Right: true}
	}
}

// TestBeadsStay (R5): beads that are handed in are not changed, nor what lies behind their end, which says nothing; and they are not kept.
func TestBeadsStay(t *testing.T) {
	for _, x := range trees() {
		whole := beadsOf(x)
		for _, l := range [][]api.Bead{whole, whole[:len(whole)/2], append([]api.Bead{{}}, whole...)} {
			piece, room := roomy(l)
			was := slices.Clone(room)
			got, e := shape.Make(piece...)
			if !slices.Equal(room, was) {
				t.Errorf("%v became %v", was, room)
			}
			if may := mayBe(l); may != (e == api.OK) || !may && e != api.ErrForm {
				t.Errorf("%v: %v", l, e)
			}
			line := lineOf(got)
			scribble(room)
			if lineOf(got) != line {
				t.Errorf("%s became %s", line, lineOf(got))
			}
		}
	}
}

// TestListIsNew (R5): what List answered may be written over: its tree, other answers, and what was made of it, stay.
func TestListIsNew(t *testing.T) {
	for _, x := range trees() {
		want := beadsOf(x)
		first, second := shape.List(x), shape.List(x)
		made, _ := shape.Make(first...)
		scribble(first)
		if !slices.Equal(second, want) || !slices.Equal(shape.List(x), want) || !slices.Equal(shape.List(made), want) {
			t.Errorf("%v became %v", want, second)
		}
	}
}

// TestNothingIsKept (R6): a call's answer hangs on what it is given alone: asked again, and behind errors, it is the same.
func TestNothingIsKept(t *testing.T) {
	x := full(4, 1)
	l, s := shape.List(x), shape.Line(x)
	for range 3 {
		seeUnmade(t, api.ErrForm, l[1:]...)
		seeMade(t, x, l...)
		seeUnread(t, api.ErrForm, s[1:])
		seeRead(t, x, s)
		seeUnmade(t, api.ErrLong, make([]api.Bead, api.MaxBeads+1)...)
		seeMade(t, nil)
		seeUnread(t, api.ErrLong, strings.Repeat(" ", api.MaxLine+1))
		seeRead(t, nil, ".")
		if !shape.Same(x, x) || shape.Same(x, nil) || shape.Line(x) != s || !slices.Equal(shape.List(x), l) {
			t.Error("the same calls answer otherwise")
		}
	}
}
