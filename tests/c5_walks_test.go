package tests

import (
	"fmt"
	"math"
	"slices"
	"strconv"
	"strings"
	"testing"

	"loop.example/tallychains/impl"
)

// readStep returns the step of a word: o opens a cursor, n1 asks the cursor 1, +a:1 puts, -a drops, >a moves behind all others, <a ahead of them, p5 pushes, q takes away, and s0:7 sets.
func readStep(word string) impl.Step {
	rest := word[1:]
	name, digits, _ := strings.Cut(rest, ":")
	number := func(s string) int {
		n, err := strconv.Atoi(s)
		if err != nil {
			panic(err)
		}
		return n
	}
	switch word[0] {
	case 'o':
		return impl.Step{Kind: impl.StOpen}
	case 'n':
		return impl.Step{Kind: impl.StNext, A: number(rest)}
	case '+':
		return impl.Step{Kind: impl.StPut, Key: name, A: number(digits)}
	case '-':
		return impl.Step{Kind: impl.StDrop, Key: rest}
	case '>':
		return impl.Step{Kind: impl.StMove, Key: rest, A: 1}
	case '<':
		return impl.Step{Kind: impl.StMove, Key: rest}
	case 'p':
		return impl.Step{Kind: impl.StPush, A: number(rest)}
	case 'q':
		return impl.Step{Kind: impl.StPop}
	case 's':
		return impl.Step{Kind: impl.StSet, A: number(name), B: number(digits)}
	}
	panic(word)
}

// readSteps returns the steps of words with spaces between them.
func readSteps(s string) []impl.Step {
	var steps []impl.Step
	for _, word := range strings.Fields(s) {
		steps = append(steps, readStep(word))
	}
	return steps
}

// writeAnswers returns the text of answers: a:1 is an item, 5 a number, . the end, ! a change, and ? no cursor. Other answers, and those with more than they may have, are written as they are.
func writeAnswers(list []impl.Answer) string {
	words := make([]string, len(list))
	for i, x := range list {
		switch {
		case x == impl.Answer{Kind: impl.AnNone}:
			words[i] = "?"
		case x == impl.Answer{Kind: impl.AnEnd}:
			words[i] = "."
		case x == impl.Answer{Kind: impl.AnChanged}:
			words[i] = "!"
		case x == impl.Answer{Kind: impl.AnItem, N: x.N}:
			words[i] = strconv.Itoa(x.N)
		case x == impl.Answer{Kind: impl.AnItem, Key: x.Key, N: x.N}:
			words[i] = x.Key + ":" + strconv.Itoa(x.N)
		default:
			words[i] = fmt.Sprint(x)
		}
	}
	return strings.Join(words, " ")
}

// expectAnswers checks the answers of a walk against the text that is wanted; what tells of the walk.
func expectAnswers(t *testing.T, out []impl.Answer, ok bool, want string, what string, about ...any) {
	t.Helper()
	if want == failed && (ok || len(out) != 0) || want != failed && (!ok || writeAnswers(out) != want) {
		t.Errorf("%s = %q, %v, want %q", fmt.Sprintf(what, about...), writeAnswers(out), ok, want)
	}
}

// walkCase is a walk by its steps, and the answers that are wanted.
type walkCase struct{ start, steps, want string }

func tryItems(t *testing.T, cases []walkCase) {
	t.Helper()
	for _, c := range cases {
		out, ok := impl.WalkItems(read(c.start), readSteps(c.steps))
		expectAnswers(t, out, ok, c.want, "WalkItems(%q, %q)", c.start, c.steps)
	}
}

func tryOrder(t *testing.T, cases []walkCase) {
	t.Helper()
	for _, c := range cases {
		out, ok := impl.WalkOrder(read(c.start), readSteps(c.steps))
		expectAnswers(t, out, ok, c.want, "WalkOrder(%q, %q)", c.start, c.steps)
	}
}

func tryDeque(t *testing.T, cases []walkCase) {
	t.Helper()
	for _, c := range cases {
		out, ok := impl.WalkDeque(readDeque(c.start), readSteps(c.steps))
		expectAnswers(t, out, ok, c.want, "WalkDeque(%q, %q)", c.start, c.steps)
	}
}

func tryList(t *testing.T, cases []walkCase) {
	t.Helper()
	for _, c := range cases {
		out, ok := impl.WalkList(readNumbers(c.start), readSteps(c.steps))
		expectAnswers(t, out, ok, c.want, "WalkList(%q, %q)", c.start, c.steps)
	}
}

// aToH is as many items as there may be.
const aToH = "a:1 b:2 c:3 d:4 e:5 f:6 g:7 h:8"

// theseNumbers is where the number walks begin that ask what all walks do alike.
const theseNumbers = "1 2 3"

// TestAllWalks checks what all walks do alike: no steps, cursors that are not open, as many as there may be, and one more.
func TestAllWalks(t *testing.T) {
	for _, c := range []struct{ steps, want string }{
		{"", ""}, {"o o o o", ""}, {"n0", "?"}, {"n0 n1 n2", "? ? ?"}, {"o n0 n1 n2", "1 ? ?"}, {"n0 o n0 n1 o n1 n0", "? 1 ? 1 2"},
		{"o o o n2 n1 n0 n2 n2 n2 n2 n0", "1 1 1 2 3 . . 2"},
		{"o o o o n0 n1 n2", "1 1 1"}, {"o n0 o n0 o n0 o n0 n1 n2", "1 2 3 . 1 1"}, {"o o o n0 o o o n0 n0 n0 n0 n1", "1 2 3 . . 1"}, {"o n0 n0 n0 n0 n0 o n1 n0", "1 2 3 . . 1 ."},
	} {
		named := strings.NewReplacer("1", "a:1", "2", "b:2", "3", "c:3").Replace(c.want)
		tryItems(t, []walkCase{{"a:1 b:2 c:3", c.steps, named}})
		tryOrder(t, []walkCase{{"a:1 b:2 c:3", c.steps, named}})
		tryDeque(t, []walkCase{{theseNumbers + " of -1", c.steps, c.want}, {theseNumbers + " of 3", c.steps, c.want}})
		tryList(t, []walkCase{{theseNumbers, c.steps, c.want}})
	}
	for _, steps := range [][]impl.Step{nil, {}} {
		out, ok := impl.WalkItems(nil, steps)
		expectAnswers(t, out, ok, "", "WalkItems of nothing")
		out, ok = impl.WalkOrder(nil, steps)
		expectAnswers(t, out, ok, "", "WalkOrder of nothing")
		out, ok = impl.WalkDeque(impl.Deque{}, steps)
		expectAnswers(t, out, ok, "", "WalkDeque of nothing")
		out, ok = impl.WalkList(nil, steps)
		expectAnswers(t, out, ok, "", "WalkList of nothing")
	}
}

func TestWalkItems(t *testing.T) {
	tryItems(t, []walkCase{
		// Steps that are not possible, or of no meaning here, change nothing.
		{"a:1 b:2", "o n0 -z >a <b p5 q s0:7 n0 n0", "a:1 b:2 ."},
		{aToH, "o n0 +z:1 n0", "a:1 b:2"},
		{"", "o n0 n0", ". ."},
		// More items, or fewer, are told; other numbers are not.
		{"a:1 b:2", "o n0 +z:1 n0 n0", "a:1 ! !"}, {"a:1 b:2", "o n0 -b n0", "a:1 !"}, {"a:1 b:2", "o n0 -a n0", "a:1 !"}, {"a:1 b:2", "o n0 +b:7 n0 n0", "a:1 b:7 ."}, {"a:1 b:2", "o n0 +a:7 n0 n0", "a:1 b:2 ."},
		{"a:1 b:2", "o +a:-9999 n0 +b:9999 n0", "a:-9999 b:9999"}, {"", "o +a:1 n0 -a n0", "! !"}, {"", "+a:1 o n0 n0", "a:1 ."}, {"a:1", "-a o n0 +a:1 n0", ". ."},
		// As many as when it was opened, not as when it was asked last.
		{"a:1 b:2", "o +z:1 -z n0 n0 n0", "a:1 b:2 ."}, {"a:1 b:2", "+z:1 o n0 n0 n0 n0", "a:1 b:2 z:1 ."}, {"a:1 b:2", "o n0 +z:1 o n0 n1 -z n1 n0", "a:1 ! a:1 ! !"},
		// What has ended stays so, also where it is changed; and what is broken, also where there are as many again.
		{"a:1 b:2", "o n0 n0 n0 +z:1 n0 -z -b n0 +c:3 n0", "a:1 b:2 . . . ."}, {"a:1 b:2", "o n0 +z:1 n0 -z n0 n0", "a:1 ! ! !"}, {"a:1 b:2", "o n0 n0 +z:1 n0", "a:1 b:2 !"}, {"a:1 b:2", "o n0 n0 n0 -a +a:1 n0", "a:1 b:2 . ."},
		// An item that is dropped and put again comes later: at the cursor, ahead of it, and behind it.
		{"a:1 b:2 c:3", "o n0 -a +a:7 n0 n0 n0 n0", "a:1 b:2 c:3 a:7 ."}, {"a:1 b:2 c:3", "o n0 -b +b:7 n0 n0 n0", "a:1 c:3 b:7 ."}, {"a:1 b:2 c:3", "o n0 n0 -a +a:7 n0 n0 n0", "a:1 b:2 c:3 a:7 ."},
		{"a:1 b:2 c:3", "o n0 n0 n0 -c +c:7 n0 n0", "a:1 b:2 c:3 c:7 ."}, {"a:1 b:2 c:3", "o n0 n0 n0 -c +c:7 n0 -c +c:8 n0 n0", "a:1 b:2 c:3 c:7 c:8 ."}, {"a:1 b:2 c:3", "o n0 -c +c:7 n0 n0 n0", "a:1 b:2 c:7 ."}, {"a:1", "o -a +a:2 n0 n0", "a:2 ."},
		// An item is dropped where another one is put.
		{"a:1 b:2 c:3", "o n0 -b +z:7 n0 n0 n0", "a:1 c:3 z:7 ."}, {"a:1 b:2 c:3", "o n0 -a +z:7 n0 n0 n0 n0", "a:1 b:2 c:3 z:7 ."}, {"a:1 b:2 c:3", "o -a +z:7 n0 n0 n0 n0", "b:2 c:3 z:7 ."}, {"a:1 b:2 c:3", "o n0 +z:7 -b n0 n0 n0", "a:1 c:3 z:7 ."},
		{"a:1 b:2", "o n0 n0 -a -b +c:3 +d:4 n0 n0 n0", "a:1 b:2 c:3 d:4 ."}, {aToH, "o n0 -h +z:1 n0 n0 n0 n0 n0 n0 n0 n0", "a:1 b:2 c:3 d:4 e:5 f:6 g:7 z:1 ."},
		// Each cursor has its own place, and its own number of items.
		{"a:1 b:2", "o n0 o n1 -a +a:7 n0 n1 n0 n1 n0 n1", "a:1 a:1 b:2 b:2 a:7 a:7 . ."}, {"a:1 b:2", "o -b o n0 n1 +b:2 n0 n1", "! a:1 ! !"},
	})
}

func TestWalkOrder(t *testing.T) {
	tryOrder(t, []walkCase{
		{"a:1 b:2", "o n0 -z >z <z p5 q s0:7 n0 n0", "a:1 b:2 ."}, {aToH, "o n0 +z:1 n0 n0 n0 n0 n0 n0 n0 n0", "a:1 b:2 c:3 d:4 e:5 f:6 g:7 h:8 ."}, {aToH, "o +h:9 -a +z:7 n0 n0 n0 n0 n0 n0 n0 n0 n0", "b:2 c:3 d:4 e:5 f:6 g:7 h:9 z:7 ."},
		// A rider behind all items stays there, when it came there and when there were none.
		{"", "o n0 +a:1 n0 n0", ". . ."}, {"", "o +a:1 n0", "."}, {"", "o +a:1 o n0 n1 n1", ". a:1 ."}, {"a:1", "o n0 +b:2 n0 n0", "a:1 . ."}, {"a:1", "o n0 n0 +b:2 n0", "a:1 . ."}, {"a:1 b:2", "o n0 n0 >a n0 <b n0", "a:1 b:2 . ."}, {"a:1 b:2", "o n0 n0 -b +b:7 n0", "a:1 b:2 ."},
		// What comes behind a rider that is at an item is seen; what comes ahead of it is not.
		{"a:1 b:2", "o n0 +c:3 n0 n0 n0", "a:1 b:2 c:3 ."}, {"a:1 b:2", "o n0 +a:7 +b:8 n0 n0", "a:1 b:8 ."}, {"a:1 b:2 c:3", "o n0 <c n0 n0", "a:1 b:2 ."}, {"a:1 b:2 c:3", "o n0 >a n0 n0 n0 n0", "a:1 b:2 c:3 a:1 ."},
		// A rider on an item that is dropped is at the one behind it.
		{"a:1 b:2 c:3", "o -a n0 n0 n0", "b:2 c:3 ."}, {"a:1 b:2 c:3", "o n0 -b n0 n0", "a:1 c:3 ."}, {"a:1 b:2 c:3", "o n0 n0 -c n0 +d:4 n0", "a:1 b:2 . ."}, {"a:1 b:2 c:3", "o n0 -b -c n0 +b:7 n0", "a:1 . ."}, {"a:1", "o -a +a:7 n0", "."},
		{"a:1 b:2 c:3", "o n0 -b +b:7 n0 n0 n0", "a:1 c:3 b:7 ."}, {"a:1 b:2 c:3", "o n0 -a n0 n0 n0", "a:1 b:2 c:3 ."}, {"a:1 b:2 c:3", "o n0 -a +a:7 n0 n0 n0 n0", "a:1 b:2 c:3 a:7 ."}, {"a:1 b:2 c:3", "o n0 -c n0 n0", "a:1 b:2 ."},
		// A rider on an item that is moved goes with it.
		{"a:1 b:2 c:3", "o >a n0 n0", "a:1 ."}, {"a:1 b:2 c:3", "o n0 >b n0 n0", "a:1 b:2 ."}, {"a:1 b:2 c:3", "o n0 <b n0 n0 n0 n0", "a:1 b:2 a:1 c:3 ."}, {"a:1 b:2 c:3", "o n0 n0 <c n0 n0 n0 n0", "a:1 b:2 c:3 a:1 b:2 ."}, {"a:1 b:2 c:3", "o n0 n0 >c n0 n0", "a:1 b:2 c:3 ."}, {"a:1 b:2 c:3", "o <a n0 n0 n0 n0", "a:1 b:2 c:3 ."},
		{"a:1", "o >a <a n0 n0", "a:1 ."}, {"a:1 b:2 c:3", "o n0 >b +d:4 n0 n0 n0", "a:1 b:2 d:4 ."}, {"a:1 b:2 c:3", "o n0 >b -b n0 +d:4 n0", "a:1 . ."}, {"a:1 b:2 c:3", "o n0 <b -b n0 n0 n0", "a:1 a:1 c:3 ."},
		// Several riders, on one item and on others.
		{"a:1 b:2 c:3", "o o n0 -b n0 n1 n0 n1 n0 n1", "a:1 c:3 a:1 . c:3 . ."}, {"a:1 b:2 c:3", "o o o n0 n1 -b n0 n1 n2 n2", "a:1 a:1 c:3 c:3 a:1 c:3"}, {"a:1 b:2 c:3", "o o n0 >a n0 n1 n0 n1 n0", "a:1 b:2 a:1 c:3 . a:1"}, {"a:1 b:2", "o o -a -b n0 n1 o +c:3 n0 n1 n2", ". . . . ."},
	})
}

func TestWalkDeque(t *testing.T) {
	tryDeque(t, []walkCase{
		{"1 2 of -1", "o n0 +a:1 -a >a <a n0 n0 n0", "1 2 . ."}, {"of -1", "o n0 n0", ". ."}, {"of 0", "o n0 n0", ". ."},
		{oneToTen + " of 10", "o n0 n0 n0 n0 n0 n0 n0 n0 n0 n0 n0", oneToTen + " ."},
		// A push breaks all cursors that are open, also one that has ended, and none that is opened later.
		{"1 2 of -1", "o n0 p3 n0 n0", "1 ! !"}, {"1 2 of -1", "o n0 n0 n0 p3 n0 q n0", "1 2 . ! !"}, {"1 2 of -1", "o o n0 p3 o n0 n1 n2 n2 n2 n2", "1 ! ! 1 2 3 ."}, {"1 2 of -1", "p3 o n0 n0 n0 n0", "1 2 3 ."}, {"of -1", "o p7 n0 o n1 n1", "! 7 ."}, {"1 2 of 3", "p3 p4 o n0 n0 n0 n0", "2 3 4 ."},
		// Also where it changes nothing: at a limit of 0, and where the deque is full of the same number.
		{"of 0", "o p5 n0 n0", "! !"}, {"of 0", "o n0 p5 o n0 n1", ". ! ."}, {"7 7 of 2", "o n0 p7 n0", "7 !"}, {"7 of 1", "p7 o n0 n0", "7 ."},
		// There and back is a change, too.
		{"1 2 of -1", "o n0 p3 q n0", "1 !"}, {"5 of -1", "o q p5 n0", "!"}, {"7 7 of -1", "o q p7 n0", "!"}, {"1 of 2", "o p1 q n0", "!"},
		// What is not possible changes nothing.
		{oneToTen + " of -1", "o n0 p11 n0", "1 2"}, {"of -1", "o q n0 q n0", ". ."}, {"of 5", "o n0 q n0", ". ."}, {"1 of 1", "q q o n0 q n0", ". ."},
		// Something that is taken away.
		{"1 2 of -1", "o n0 q n0", "1 !"}, {"1 2 of -1", "o n0 n0 n0 q n0", "1 2 . !"}, {"1 2 of -1", "q o n0 n0", "2 ."}, {"1 of 1", "o q n0 n0", "! !"},
		// Numbers that are set: behind a cursor, ahead of it, and where there is none.
		{"1 2 3 of -1", "o n0 s0:7 n0 n0 n0", "1 2 3 ."}, {"1 2 3 of 3", "o n0 s1:7 s2:8 n0 n0 n0", "1 7 8 ."}, {"1 2 3 of -1", "o s3:9 s9:9 n0 n0 n0 n0", "1 2 3 ."}, {"1 2 of -1", "o n0 n0 n0 s0:5 s1:6 n0 o n1 n1", "1 2 . . 5 6"}, {"1 of -1", "s0:-9999 o n0 s0:9999 n0", "-9999 ."}, {"of -1", "o s0:1 n0", "."},
	})
}

func TestWalkList(t *testing.T) {
	tryList(t, []walkCase{
		{"1 2", "o n0 +a:1 -a >a <a n0 n0 n0", "1 2 . ."}, {"", "o n0 n0", ". ."}, {oneToTen, "o n0 n0 n0 n0 n0 n0 n0 n0 n0 n0 n0", oneToTen + " ."},
		// What is pushed is answered, unless the end was.
		{"1 2", "o n0 p3 n0 n0 n0", "1 2 3 ."}, {"1 2", "o n0 n0 p3 n0 n0", "1 2 3 ."}, {"1 2", "o n0 n0 n0 p3 n0 o n1 n1 n1 n1", "1 2 . . 1 2 3 ."}, {"", "o p7 n0 n0", "7 ."}, {"", "o n0 p7 n0 n0", ". . ."},
		{oneToTen, "p11 o n0 n0 n0 n0 n0 n0 n0 n0 n0 n0 n0", oneToTen + " ."}, {"1 2 3 4 5 6 7 8 9", "p10 p11 o n0 n0 n0 n0 n0 n0 n0 n0 n0 n0 n0", oneToTen + " ."}, {oneToTen, "q p11 o n0 n0 n0 n0 n0 n0 n0 n0 n0 n0 n0", "2 3 4 5 6 7 8 9 10 11 ."},
		// The number with the index of how many were answered: one is skipped where the first one is taken away.
		{"1 2 3", "o n0 q n0 n0", "1 3 ."}, {"1 2 3", "o q n0 n0 n0", "2 3 ."}, {"1 2 3", "o n0 q p4 n0 n0 n0", "1 3 4 ."}, {"1 2 3", "o n0 n0 q q n0 p4 p5 n0", "1 2 . ."}, {"1 2 3", "o n0 n0 q q p4 p5 n0 n0", "1 2 5 ."}, {"1", "q q o n0", "."}, {"", "q o q n0", "."},
		{"1 2 3", "o n0 s0:7 n0 n0 n0", "1 2 3 ."}, {"1 2 3", "o n0 s1:7 s2:8 n0 n0 n0", "1 7 8 ."}, {"1 2 3", "o s3:9 s9:9 n0 n0 n0 n0", "1 2 3 ."}, {"1 2", "o n0 n0 n0 s0:5 s1:6 n0 o n1 n1", "1 2 . . 5 6"}, {"", "o s0:1 n0", "."}, {"1", "s0:-9999 o n0 s0:9999 n0", "-9999 ."},
		{"1 2 3", "o n0 n0 o n1 q n0 n1 n1", "1 2 1 . 3 ."},
	})
}

// longSteps returns as many steps as there may be.
func longSteps() []impl.Step {
	return slices.Repeat(readSteps("o n0 p1"), impl.MaxSteps/3)
}

// badSteps returns steps that are not valid, one by one: fields that are out of range, and fields that are to be "" or 0 and are not.
func badSteps() []impl.Step {
	var bad []impl.Step
	for _, kind := range append([]int{-1, 8, 9}, extremes...) {
		bad = append(bad, impl.Step{Kind: kind}, impl.Step{Kind: kind, Key: "a", A: 1})
	}
	for _, word := range []string{"o", "n0", "p5", "q", "s0:7"} {
		step := readStep(word)
		step.Key = "a"
		bad = append(bad, step)
	}
	for _, word := range []string{"o", "q", "-a"} {
		for _, n := range append([]int{1, -1}, extremes...) {
			step := readStep(word)
			step.A = n
			bad = append(bad, step)
		}
	}
	for _, word := range []string{"o", "n0", "n2", "+a:1", "-a", ">a", "<a", "p5", "q"} {
		for _, n := range append([]int{1, -1}, extremes...) {
			step := readStep(word)
			step.B = n
			bad = append(bad, step)
		}
	}
	for _, list := range invalidLists() {
		for _, item := range list {
			if len(list) < 3 && !impl.ValidItems([]impl.Item{item}) {
				bad = append(bad, impl.Step{Kind: impl.StPut, Key: item.Key, A: item.N})
			}
			if len(list) < 3 && !impl.ValidItems([]impl.Item{{Key: item.Key}}) {
				bad = append(bad, impl.Step{Kind: impl.StDrop, Key: item.Key}, impl.Step{Kind: impl.StMove, Key: item.Key}, impl.Step{Kind: impl.StMove, Key: item.Key, A: 1})
			}
		}
	}
	for _, n := range append([]int{3, 4, -1}, extremes...) {
		bad = append(bad, impl.Step{Kind: impl.StNext, A: n})
	}
	for _, n := range append([]int{2, -1}, extremes...) {
		bad = append(bad, impl.Step{Kind: impl.StMove, Key: "a", A: n})
	}
	for _, n := range extremes {
		bad = append(bad, impl.Step{Kind: impl.StPush, A: n}, impl.Step{Kind: impl.StSet, B: n})
	}
	for _, n := range append([]int{10, 11, -1}, extremes...) {
		bad = append(bad, impl.Step{Kind: impl.StSet, A: n}, impl.Step{Kind: impl.StSet, A: n, B: 5})
	}
	return bad
}

// invalidSteps returns steps that are not valid: too many of them, and each bad one alone and among others.
func invalidSteps() [][]impl.Step {
	lists := [][]impl.Step{append(longSteps(), readStep("n0")), make([]impl.Step, 31), make([]impl.Step, 1000)}
	for _, bad := range badSteps() {
		lists = append(lists, []impl.Step{bad}, append(readSteps("o n0"), bad), append([]impl.Step{bad}, readSteps("o n0")...))
	}
	return lists
}

func TestValidSteps(t *testing.T) {
	for _, s := range []string{"", "o", "o o o o o o", "n0 n1 n2", "+a:0", "+abcd:9999 +z:-9999", "-a -abcd", ">a <a >abcd", "p0 p9999 p-9999", "q q", "s0:0 s9:9999 s9:-9999", "o n0 +a:1 -a >a <a p5 q s0:7"} {
		if !impl.ValidSteps(readSteps(s)) {
			t.Errorf("ValidSteps(%q) = false", s)
		}
	}
	if !impl.ValidSteps(longSteps()) || !impl.ValidSteps(make([]impl.Step, 30)) || !impl.ValidSteps([]impl.Step{}) {
		t.Error("ValidSteps of as many as there may be, or of none = false")
	}
	for _, bad := range invalidSteps() {
		if impl.ValidSteps(bad) {
			t.Errorf("ValidSteps(%v) = true", bad)
		}
	}
}

func TestInvalidWalks(t *testing.T) {
	for _, bad := range invalidSteps() {
		for _, start := range []string{"", "1 2 3"} {
			out, ok := impl.WalkList(readNumbers(start), bad)
			expectAnswers(t, out, ok, failed, "WalkList(%q, %v)", start, bad)
			out, ok = impl.WalkDeque(impl.Deque{Items: readNumbers(start), Most: 5}, bad)
			expectAnswers(t, out, ok, failed, "WalkDeque(%q, %v)", start, bad)
		}
		for _, start := range []string{"", "a:1 b:2"} {
			out, ok := impl.WalkItems(read(start), bad)
			expectAnswers(t, out, ok, failed, "WalkItems(%q, %v)", start, bad)
			out, ok = impl.WalkOrder(read(start), bad)
			expectAnswers(t, out, ok, failed, "WalkOrder(%q, %v)", start, bad)
		}
	}
	for _, s := range []string{"", "o", "n0", "o n0", "-b o n0", "q o n0", "+b:1 o n0 n0"} {
		steps := readSteps(s)
		for _, bad := range invalidLists() {
			out, ok := impl.WalkItems(bad, steps)
			expectAnswers(t, out, ok, failed, "WalkItems(%v, %q)", bad, s)
			out, ok = impl.WalkOrder(bad, steps)
			expectAnswers(t, out, ok, failed, "WalkOrder(%v, %q)", bad, s)
		}
		for _, bad := range invalidDeques() {
			out, ok := impl.WalkDeque(bad, steps)
			expectAnswers(t, out, ok, failed, "WalkDeque(%v, %q)", bad, s)
		}
		for _, bad := range badNumbers() {
			out, ok := impl.WalkList(bad, steps)
			expectAnswers(t, out, ok, failed, "WalkList(%v, %q)", bad, s)
		}
	}
}

// TestWalksStay checks that no walk changes its arguments, also those that it changes on its way, and that it gives the same once more.
func TestWalksStay(t *testing.T) {
	text := "o n0 +a:77 -d >a <b p5 q s0:7 s1:8 +new:1 n0 o n1 n1 n1"
	steps := readSteps(text)
	whole := append(slices.Clone(steps), impl.Step{Kind: 99})
	for name, f := range map[string]listCall{
		"WalkItems": func(list []impl.Item) ([]impl.Item, bool) {
			out, ok := impl.WalkItems(list, whole[:len(steps)])
			return read(writeAnswersOnly(out)), ok
		},
		"WalkOrder": func(list []impl.Item) ([]impl.Item, bool) {
			out, ok := impl.WalkOrder(list, whole[:len(steps)])
			return read(writeAnswersOnly(out)), ok
		},
	} {
		list, spare := roomy(firstList)
		out, ok := f(list)
		stays(t, name, firstList, spare)
		again, _ := f(list)
		expect(t, again, ok, write(out), "%s once more", name)
	}
	for _, s := range []string{"", "5 6 7 6", oneToTen} {
		list, spare := roomyNumbers(s)
		impl.WalkList(list, whole[:len(steps)])
		for _, most := range []int{-1, len(list), 10} {
			first, _ := impl.WalkDeque(impl.Deque{Items: list, Most: most}, whole[:len(steps)])
			again, ok := impl.WalkDeque(impl.Deque{Items: list, Most: most}, whole[:len(steps)])
			expectAnswers(t, again, ok, writeAnswers(first), "WalkDeque once more")
		}
		if _, want := roomyNumbers(s); !slices.Equal(spare, want) {
			t.Errorf("a walk has changed %v to %v", want, spare)
		}
	}
	if !slices.Equal(whole, append(readSteps(text), impl.Step{Kind: 99})) {
		t.Errorf("a walk has changed its steps to %v", whole)
	}
}

// writeAnswersOnly returns the text of the items that are answered.
func writeAnswersOnly(list []impl.Answer) string {
	items := slices.DeleteFunc(slices.Clone(list), func(x impl.Answer) bool { return x.Kind != impl.AnItem })
	return writeAnswers(items)
}

func TestConstantsOfCursors(t *testing.T) {
	kinds := []int{impl.StOpen, impl.StNext, impl.StPut, impl.StDrop, impl.StMove, impl.StPush, impl.StPop, impl.StSet}
	answers := []int{impl.AnNone, impl.AnItem, impl.AnEnd, impl.AnChanged}
	if !slices.Equal(kinds, []int{0, 1, 2, 3, 4, 5, 6, 7}) || !slices.Equal(answers, []int{0, 1, 2, 3}) || impl.MaxCursors != 3 || impl.MaxSteps != 30 || impl.MaxDesk != 20 {
		t.Errorf("kinds of steps %v, of answers %v, limits %d, %d, %d", kinds, answers, impl.MaxCursors, impl.MaxSteps, impl.MaxDesk)
	}
	if impl.ValidSteps([]impl.Step{{Kind: impl.StNext, A: math.MaxInt}}) {
		t.Error("ValidSteps of a cursor that is out of range = true")
	}
}
