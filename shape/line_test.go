package shape_test

import (
	"math/big"
	"regexp"
	"strings"
	"testing"

	"joinery/api"
	"joinery/node"
	"joinery/shape"
)

// TestExamples (P11.2): the chapter's own.
func TestExamples(t *testing.T) {
	seeLine(t, node.New(nil, 5, -7, 3, nil), "(. 5:-7#3 .)")
	seeRead(t, node.New(nil, 5, -7, 3, nil), "(. 5:-7#3 .)")
	seeUnread(t, api.ErrForm, "(. 05:7 .)")
	seeRead(t, node.New(nil, 5, 7, 0, nil), "(. 5:7 .)")
}

// TestNoLine (P11.2): the empty tree's line is a dot; an empty text is no line.
func TestNoLine(t *testing.T) {
	seeLine(t, nil, ".")
	seeRead(t, nil, ".")
	for _, s := range []string{"", "..", ". ", " .", "...", "(.)", "()", "( )", "(. .)", "\n", ".\n", "\x00", ".\x00", "\x00.", "0", "1:2", "(", ")", "nil", "·"} {
		seeUnread(t, api.ErrForm, s)
	}
}

// TestLinesOfSides (P11.2): lines as they are written by hand: with something on the left, on the right, on both sides, the same tree on both.
func TestLinesOfSides(t *testing.T) {
	one, other := leaf(1, 2, 0), leaf(-3, 0, 4)
	for want, x := range map[string]*node.Node{
		"(. 1:2 .)":                              one,
		"(. -3:0#4 .)":                           other,
		"(. 0:0 .)":                              leaf(0, 0, 0),
		"((. 1:2 .) 5:6 .)":                      node.New(one, 5, 6, 0, nil),
		"(. 5:6 (. 1:2 .))":                      node.New(nil, 5, 6, 0, one),
		"((. 1:2 .) 5:6#7 (. -3:0#4 .))":         node.New(one, 5, 6, 7, other),
		"((. -3:0#4 .) 5:6#7 (. 1:2 .))":         node.New(other, 5, 6, 7, one),
		"((. 1:2 .) 5:6#7 (. 1:2 .))":            node.New(one, 5, 6, 7, one),
		"(((. 1:2 .) 3:3 .) 4:4 .)":              node.New(node.New(one, 3, 3, 0, nil), 4, 4, 0, nil),
		"((. 3:3 (. 1:2 .)) 4:4 .)":              node.New(node.New(nil, 3, 3, 0, one), 4, 4, 0, nil),
		"(. 4:4 ((. 1:2 .) 3:3 .))":              node.New(nil, 4, 4, 0, node.New(one, 3, 3, 0, nil)),
		"(. 4:4 (. 3:3 (. 1:2 .)))":              node.New(nil, 4, 4, 0, node.New(nil, 3, 3, 0, one)),
		"(. 9223372036854775807:0 .)":            leaf(9223372036854775807, 0, 0),
		"(. -9223372036854775808:0 .)":           leaf(-9223372036854775808, 0, 0),
		"(. 0:9223372036854775807 .)":            leaf(0, 9223372036854775807, 0),
		"(. 0:-9223372036854775808 .)":           leaf(0, -9223372036854775808, 0),
		"(. 0:0#18446744073709551615 .)":         leaf(0, 0, 18446744073709551615),
		"(. 0:0#1 .)":                            leaf(0, 0, 1),
		"((. 1:2 .) -9:10#10 (. 5:6 (. 1:2 .)))": node.New(one, -9, 10, 10, node.New(nil, 5, 6, 0, one)),
	} {
		seeLine(t, x, want)
		seeRead(t, x, want)
	}
}

// TestLineOfOne (P11.2): a node of two empty trees, of each key, value and tag.
func TestLineOfOne(t *testing.T) {
	for _, key := range numbers() {
		for _, val := range numbers() {
			for _, tag := range tags() {
				x := leaf(key, val, tag)
				seeLine(t, x, lineOf(x))
				seeRead(t, x, lineOf(x))
			}
		}
	}
}

// TestLineOfAny (P11.2): each tree's line, by the chapter's words.
func TestLineOfAny(t *testing.T) {
	for _, x := range trees() {
		want := lineOf(x)
		seeLine(t, x, want)
		seeRead(t, x, want)
	}
}

// TestUnreadNumbers (P11.2): keys, values and tags that are written in other ways, are no numbers, or no such numbers.
func TestUnreadNumbers(t *testing.T) {
	words := []string{
		"", "-", "--", "-0", "+0", "+1", "+", "00", "000", "01", "007", "-01", "-00", "--1", "1-", "1-1", "-1-", "0-1", "1 ", " 1", "1 1", "1\t",
		"0x1", "1x", "a", "1a", "1_0", "_1", "1e3", "1.", "1.0", ".1", "1,0", "'1'", "½", "٣", "１", "−1", "1\x00", "\x00", "\x001",
		"9223372036854775808000", "-9223372036854775809", "-9223372036854775810", "-18446744073709551615", "18446744073709551616", "18446744073709551617",
		"36893488147419103232", "99999999999999999999", "-99999999999999999999", "340282366920938463463374607431768211456",
		"1" + strings.Repeat("0", 1000), "-1" + strings.Repeat("0", 1000), strings.Repeat("0", 1000), strings.Repeat("0", 1000) + "1", strings.Repeat("9", 1<<19),
	}
	for _, w := range words {
		seeUnread(t, api.ErrForm, "(. 5:6#"+w+" .)")
		seeUnread(t, api.ErrForm, "(. 5:"+w+" .)")
		seeUnread(t, api.ErrForm, "(. 5:"+w+"#7 .)")
		seeUnread(t, api.ErrForm, "(. "+w+":6 .)")
		seeUnread(t, api.ErrForm, "((. 1:1 .) 5:6#7 (. "+w+":6 .))")
	}
	for _, w := range []string{"9223372036854775808", "10000000000000000000", "18446744073709551615"} {
		seeUnread(t, api.ErrForm, "(. 5:"+w+" .)")
		seeUnread(t, api.ErrForm, "(. "+w+":6 .)")
		if x, e := shape.Read("(. 5:6#" + w + " .)"); e != api.OK || lineOf(x) != "(. 5:6#"+w+" .)" {
			t.Errorf("#%s: %v", w, e)
		}
	}
	for _, w := range []string{"0", "-1", "-9223372036854775808"} {
		seeUnread(t, api.ErrForm, "(. 5:6#"+w+" .)")
		for _, s := range []string{"(. 5:" + w + " .)", "(. " + w + ":6 .)"} {
			if x, e := shape.Read(s); e != api.OK || lineOf(x) != s {
				t.Errorf("%s: %v", s, e)
			}
		}
	}
}

// TestUnreadForms (P11.2): texts that are nearly lines.
func TestUnreadForms(t *testing.T) {
	for _, s := range []string{
		"(. 5:6  .)", "(.  5:6 .)", "(. 5 :6 .)", "(. 5: 6 .)", "(. 5:6 #7 .)", "(. 5:6# 7 .)", "(. 5:6 . )", "( . 5:6 .)", " (. 5:6 .)", "(. 5:6 .) ",
		"(.5:6 .)", "(. 5:6.)", "(.5:6.)", "(. 5:6#7.)", "(.\t5:6 .)", "(. 5:6\t.)", "(.\n5:6 .)", "(. 5:6\u00a0.)", "(. 5:6 .)\n", "\n(. 5:6 .)", "(. 5:6 .)\x00", "\ufeff(. 5:6 .)",
		"[. 5:6 .]", "{. 5:6 .}", "(. 5:6 .]", "<. 5:6 .>", "(. 5:6 .", ". 5:6 .)", "(. 5:6 .))", "((. 5:6 .)", "((. 5:6 .))", ")(. 5:6 .)", "(. 5:6 .)(",
		"( 5:6 .)", "(. 5:6 )", "(. 5:6)", "(5:6)", "( 5:6 )", "(.. 5:6 .)", "(. 5:6 ..)", "(. 5;6 .)", "(. 5=6 .)", "(. 5,6 .)", "(. 5 6 .)", "(. 56 .)", "(. :6 .)", "(. 5: .)", "(. : .)",
		"(. 5::6 .)", "(. 5:6:7 .)", "(. 5:6##7 .)", "(. 5:6#7#8 .)", "(. 5:6# .)", "(. 5#7:6 .)", "(. #7 .)", "(. 5#7 .)", "(. 5:#7 .)", "(. 5:6#7: .)", "(. 5:6#x .)",
		"(. 5:6 (. 1:2 .)", "((. 1:2 .) 5:6 .", "((. 1:2 .)5:6 .)", "(. 5:6(. 1:2 .))", "(. 5:6 (. 1:2 .)))", "(. 5:6 .)(. 1:2 .)", "(. 5:6 .) (. 1:2 .)", "(. 5:6 .).", ".(. 5:6 .)",
		"(. 5:6 . .)", "(. . 5:6 .)", "(. 5:6 . 7:8 .)", "(. 5:6 7:8 .)", "((. 1:2 .) (. 5:6 .))", "(. (. 1:2 .) .)", "(nil 5:6 nil)", "(· 5:6 ·)", "(, 5:6 ,)", "(0 5:6 0)",
	} {
		seeUnread(t, api.ErrForm, s)
	}
}

// inner is a node of two empty trees in a line, whose numbers are written as they ought to be, but may be too great.
var inner = regexp.MustCompile(`\(\. (0|-?[1-9][0-9]*):(0|-?[1-9][0-9]*)(#[1-9][0-9]*)? \.\)`)

// isLine tells whether a text is a line, in another way than the program does: each node of two empty trees is made an empty tree, until one is left. It asks not how many there are.
func isLine(s string) bool {
	for s != "." {
		at := inner.FindStringSubmatchIndex(s)
		if at == nil || !great(s[at[2]:at[3]]).IsInt64() || !great(s[at[4]:at[5]]).IsInt64() {
			return false
		}
		if at[6] >= 0 && !great(s[at[6]+1:at[7]]).IsUint64() {
			return false
		}
		s = s[:at[0]] + "." + s[at[1]:]
	}
	return true
}

// great is a number of any length.
func great(digits string) *big.Int {
	x, _ := new(big.Int).SetString(digits, 10)
	return x
}

// seeText fails the test, unless a text is read if it is a line, and then as the tree that has that line.
func seeText(t *testing.T, s string) {
	t.Helper()
	if !isLine(s) {
		seeUnread(t, api.ErrForm, s)
		return
	}
	x, e := shape.Read(s)
	if e != api.OK || lineOf(x) != s {
		t.Errorf("Read of %q: %v, %s", s, e, lineOf(x))
	}
}

// someLines are short lines that have all that there is in lines.
func someLines() []string {
	return []string{
		".", "(. 5:-7#3 .)", "(. -10:0 (. 0:99#10 .))", "((. 12:3 .) 1:-1#20 (. 7:100 .))",
		"(. 9223372036854775807:-9223372036854775808#18446744073709551615 .)", "((. 1:1 (. -2:2 .)) 0:0 .)",
	}
}

// TestOneByteElse (P11.2): lines with one byte less, one byte more, of any kind, or another one instead, at each place; and with two neighbours that changed places.
func TestOneByteElse(t *testing.T) {
	for _, s := range someLines() {
		if !isLine(s) {
			t.Fatalf("%q is a line", s)
		}
		for k := range len(s) + 1 {
			for c := range 256 {
				one := string([]byte{byte(c)})
				seeText(t, s[:k]+one+s[k:])
				if k < len(s) {
					seeText(t, s[:k]+one+s[k+1:])
				}
			}
			if k < len(s) {
				seeText(t, s[:k]+s[k+1:])
			}
			if k+1 < len(s) {
				seeText(t, s[:k]+s[k+1:k+2]+s[k:k+1]+s[k+2:])
			}
		}
	}
}

// TestPiecesOfLines (P11.2): what a line begins with, and ends with, is none; nor are two lines, one behind the other, with anything between them.
func TestPiecesOfLines(t *testing.T) {
	for _, x := range trees() {
		s := lineOf(x)
		step := 1 + len(s)/50
		for k := 0; k < len(s); k += step {
			seeUnread(t, api.ErrForm, s[:k])
			if rest := s[len(s)-k:]; rest != "." {
				seeUnread(t, api.ErrForm, rest)
			}
		}
		for _, between := range []string{"", " ", "\n", ".", ":"} {
			seeUnread(t, api.ErrForm, s+between+s)
		}
	}
}

// TestDrawnTexts (P11.2): lines that were changed at any places, by what lines are made of.
func TestDrawnTexts(t *testing.T) {
	c := chance(11)
	pieces := []string{"(", ")", ".", " ", ":", "#", "-", "0", "1", "9", "(. 1:2 .)", "(. 3:4#5 .)", ". ", " .", "0:0", "#1", "99999999999"}
	for range 40_000 {
		s := lineOf(c.drawn(c.below(6)))
		for range 1 + c.below(3) {
			from := c.below(len(s) + 1)
			till := min(len(s), from+c.below(3))
			s = s[:from] + pieces[c.below(len(pieces))] + s[till:]
		}
		seeText(t, s)
	}
}

// TestMaxLine (P11.2): texts of as many bytes as may be, and of one more: that one is ErrLong, whether it is a line or not.
func TestMaxLine(t *testing.T) {
	for _, count := range []int{api.MaxBeads, api.MaxBeads - 1, 50_000} {
		s, x := fitted(count, api.MaxLine)
		if len(s) != api.MaxLine {
			t.Fatalf("%d bytes", len(s))
		}
		seeLine(t, x, s)
		seeRead(t, x, s)
		seeUnread(t, api.ErrForm, s[:len(s)-1])
		seeUnread(t, api.ErrForm, s[:len(s)-1]+".")
		seeUnread(t, api.ErrLong, s+" ")
		seeUnread(t, api.ErrLong, s+s)
		longer, y := fitted(count, api.MaxLine+1)
		seeUnread(t, api.ErrLong, longer)
		seeLine(t, y, longer)
		shorter, z := fitted(count, api.MaxLine-1)
		seeRead(t, z, shorter)
		seeUnread(t, api.ErrForm, shorter+".")
	}
	for _, s := range []string{".", "(", " ", "1", "\x00", "(. 1:2 .)"} {
		long := strings.Repeat(s, api.MaxLine+1)
		seeUnread(t, api.ErrForm, long[:api.MaxLine])
		seeUnread(t, api.ErrLong, long[:api.MaxLine+1])
		seeUnread(t, api.ErrLong, long)
	}
}

// TestMaxBeadsOfLine (P11.2): a line of as many beads as Make makes trees of is read; one of a bead more is none, though it is not too long.
func TestMaxBeadsOfLine(t *testing.T) {
	const shortest = 8 * api.MaxBeads
	s, x := fitted(api.MaxBeads, shortest+1)
	seeRead(t, x, s)
	for _, spare := range []int{0, 1, 100_000} {
		more, y := fitted(api.MaxBeads+1, shortest+9+spare)
		seeUnread(t, api.ErrForm, more)
		seeLine(t, y, more)
	}
	most, z := fitted(131_000, api.MaxLine)
	seeUnread(t, api.ErrForm, most)
	seeLine(t, z, most)
}

// TestMaxDeepOfLine (P11.2): a line whose nodes lie as deep as may be, the root 1 deep, is read; one of a node deeper is none. The way there may be any.
func TestMaxDeepOfLine(t *testing.T) {
	for way := range ways {
		x := deepTree(api.MaxDeep, way, nil)
		s := lineOf(x)
		seeLine(t, x, s)
		seeRead(t, x, s)
		more := deepTree(api.MaxDeep+1, way, nil)
		seeUnread(t, api.ErrForm, lineOf(more))
		seeLine(t, more, lineOf(more))
		for _, over := range []*node.Node{node.New(x, 1, 1, 0, nil), node.New(nil, 1, 1, 0, x), node.New(full(9, 1), 1, 1, 0, x), node.New(x, 1, 1, 0, full(9, 1))} {
			seeUnread(t, api.ErrForm, lineOf(over))
		}
		below := deepTree(api.MaxDeep-5, way, leaf(1, 2, 3))
		for place := range 32 {
			seeUnread(t, api.ErrForm, lineOf(hung(below, 5, place)))
			seeRead(t, hung(below, 4, place/2), lineOf(hung(below, 4, place/2)))
		}
	}
}
