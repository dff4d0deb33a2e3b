package tests

import (
	"fmt"
	"math"
	"slices"
	"strconv"
	"strings"
	"testing"

	"loop.example/tallychains/impl"
)

// readNumbers returns the numbers of a text like "1 -2 3", also if they are out of range.
func readNumbers(s string) []int {
	var list []int
	for _, digits := range strings.Fields(s) {
		n, err := strconv.Atoi(digits)
		if err != nil {
			panic(err)
		}
		list = append(list, n)
	}
	return list
}

// readDeque returns the deque of a text like "1 -2 3 of 5", also if it is not valid; one without a limit is "1 -2 3 of -1".
func readDeque(s string) impl.Deque {
	numbers, most, _ := strings.Cut(s, "of ")
	return impl.Deque{Items: readNumbers(numbers), Most: readNumbers(most)[0]}
}

// writeDeque returns the text that readDeque reads.
func writeDeque(d impl.Deque) string {
	return strings.TrimSpace(strings.Trim(fmt.Sprint(d.Items), "[]") + " of " + strconv.Itoa(d.Most))
}

// expectDeque checks the deque of a call against the text that is wanted; what tells of the call.
func expectDeque(t *testing.T, out impl.Deque, ok bool, want string, what string, about ...any) {
	t.Helper()
	if want == failed && (ok || len(out.Items) != 0 || out.Most != 0) || want != failed && (!ok || writeDeque(out) != want) {
		t.Errorf("%s = %q, %v, want %q", fmt.Sprintf(what, about...), writeDeque(out), ok, want)
	}
}

const (
	oneToTen   = "1 2 3 4 5 6 7 8 9 10"
	tenToOne   = "10 9 8 7 6 5 4 3 2 1"
	limitTen   = "9999 -9999 0 9999 -9999 0 9999 -9999 0 9999"
	elevenUp   = "0 1 2 3 4 5 6 7 8 9 10"
	mixedDeque = "5 6 7 6 of -1"
)

// extremes are numbers that no deque has, and that no index, count or limit can be.
var extremes = []int{10000, -10000, math.MaxInt, math.MinInt, math.MaxInt - 1, math.MinInt + 1}

// badNumbers returns lists that are too long, or that have a number out of range.
func badNumbers() [][]int {
	lists := [][]int{readNumbers(elevenUp), make([]int, 11), make([]int, 1000)}
	for _, x := range extremes {
		lists = append(lists, []int{x}, []int{x, 1}, []int{1, 2, x}, append(readNumbers("1 2 3 4 5 6 7 8 9"), x))
	}
	return lists
}

// invalidDeques returns deques that are not valid: with bad numbers, with a limit that is none, and with more numbers than their limit.
func invalidDeques() []impl.Deque {
	var deques []impl.Deque
	for _, list := range badNumbers() {
		for _, most := range []int{-1, 0, 10, 11, len(list)} {
			deques = append(deques, impl.Deque{Items: list, Most: most})
		}
	}
	for _, list := range [][]int{nil, {}, {1}, {1, 2, 3}, readNumbers(oneToTen)} {
		for _, most := range []int{-2, -3, 11, 12, math.MaxInt, math.MinInt, math.MinInt + 1} {
			deques = append(deques, impl.Deque{Items: list, Most: most})
		}
		for most := range len(list) {
			deques = append(deques, impl.Deque{Items: list, Most: most})
		}
	}
	return deques
}

func TestValidDeque(t *testing.T) {
	for _, s := range []string{"of -1", "of 0", "of 1", "of 10", "1 of 1", "0 of 10", "1 2 3 of 3", "1 2 3 of 4", "1 1 1 of -1", oneToTen + " of 10", oneToTen + " of -1", limitTen + " of 10", limitTen + " of -1", "9999 of 1", "-9999 of 1"} {
		if !impl.ValidDeque(readDeque(s)) {
			t.Errorf("ValidDeque(%q) = false", s)
		}
	}
	if !impl.ValidDeque(impl.Deque{Items: []int{}}) || !impl.ValidDeque(impl.Deque{}) {
		t.Error("ValidDeque of no numbers with the limit 0 = false")
	}
	for _, bad := range invalidDeques() {
		if impl.ValidDeque(bad) {
			t.Errorf("ValidDeque(%q) = true", writeDeque(bad))
		}
	}
}

// TestPushes tries pushes at both ends.
func TestPushes(t *testing.T) {
	for _, c := range []struct {
		deque       string
		x           int
		back, front string
	}{
		{"of -1", 4, "4 of -1", "4 of -1"}, {"of 0", 4, "of 0", "of 0"}, {"of 1", 4, "4 of 1", "4 of 1"}, {"of 10", 0, "0 of 10", "0 of 10"},
		{"1 of 1", 4, "4 of 1", "4 of 1"}, {"1 of 2", 4, "1 4 of 2", "4 1 of 2"}, {"1 of -1", 4, "1 4 of -1", "4 1 of -1"}, {"1 of 10", 1, "1 1 of 10", "1 1 of 10"},
		{"1 2 3 of 3", 4, "2 3 4 of 3", "4 1 2 of 3"}, {"1 2 3 of 4", 4, "1 2 3 4 of 4", "4 1 2 3 of 4"}, {"1 2 3 of -1", 4, "1 2 3 4 of -1", "4 1 2 3 of -1"}, {"3 3 3 of 3", 3, "3 3 3 of 3", "3 3 3 of 3"},
		{"1 2 of 3", 9999, "1 2 9999 of 3", "9999 1 2 of 3"}, {"1 2 of 3", -9999, "1 2 -9999 of 3", "-9999 1 2 of 3"},
		{"1 2 3 4 5 6 7 8 9 of -1", 10, oneToTen + " of -1", "10 1 2 3 4 5 6 7 8 9 of -1"}, {"1 2 3 4 5 6 7 8 9 of 10", 10, oneToTen + " of 10", "10 1 2 3 4 5 6 7 8 9 of 10"}, {"1 2 3 4 5 6 7 8 9 of 9", 10, "2 3 4 5 6 7 8 9 10 of 9", "10 1 2 3 4 5 6 7 8 of 9"},
		{oneToTen + " of 10", 11, "2 3 4 5 6 7 8 9 10 11 of 10", "11 1 2 3 4 5 6 7 8 9 of 10"}, {oneToTen + " of -1", 11, failed, failed}, {limitTen + " of -1", 0, failed, failed},
	} {
		out, ok := impl.PushBack(readDeque(c.deque), c.x)
		expectDeque(t, out, ok, c.back, "PushBack(%q, %d)", c.deque, c.x)
		out, ok = impl.PushFront(readDeque(c.deque), c.x)
		expectDeque(t, out, ok, c.front, "PushFront(%q, %d)", c.deque, c.x)
	}
}

// TestExtends tries lists at both ends, and the numbers of other deques behind.
func TestExtends(t *testing.T) {
	for _, c := range []struct{ deque, list, back, front string }{
		{"of -1", "", "of -1", "of -1"}, {"of 0", "", "of 0", "of 0"}, {"1 2 of 2", "", "1 2 of 2", "1 2 of 2"}, {"of 0", "1 2 3", "of 0", "of 0"}, {"of 0", oneToTen, "of 0", "of 0"},
		{"of -1", "1 2 3", "1 2 3 of -1", "3 2 1 of -1"}, {"of -1", oneToTen, oneToTen + " of -1", tenToOne + " of -1"}, {"of 10", oneToTen, oneToTen + " of 10", tenToOne + " of 10"}, {"of 1", oneToTen, "10 of 1", "10 of 1"}, {"of 3", oneToTen, "8 9 10 of 3", "10 9 8 of 3"},
		{"1 2 of 4", "3", "1 2 3 of 4", "3 1 2 of 4"}, {"1 2 of 4", "3 4", "1 2 3 4 of 4", "4 3 1 2 of 4"}, {"1 2 of 4", "3 4 5", "2 3 4 5 of 4", "5 4 3 1 of 4"}, {"1 2 of 4", "3 4 5 6", "3 4 5 6 of 4", "6 5 4 3 of 4"}, {"1 2 of 4", "3 4 5 6 7", "4 5 6 7 of 4", "7 6 5 4 of 4"},
		{"1 2 of -1", "3 4", "1 2 3 4 of -1", "4 3 1 2 of -1"}, {"1 2 of -1", "3 4 5 6 7 8 9 10", oneToTen + " of -1", "10 9 8 7 6 5 4 3 1 2 of -1"}, {"1 2 of -1", "3 4 5 6 7 8 9 10 11", failed, failed}, {"1 of -1", oneToTen, failed, failed},
		{"1 2 of 10", "3 4 5 6 7 8 9 10 11", "2 3 4 5 6 7 8 9 10 11 of 10", "11 10 9 8 7 6 5 4 3 1 of 10"}, {"0 of 10", oneToTen, oneToTen + " of 10", tenToOne + " of 10"},
		{oneToTen + " of 10", tenToOne, tenToOne + " of 10", oneToTen + " of 10"}, {oneToTen + " of 10", "11 12", "3 4 5 6 7 8 9 10 11 12 of 10", "12 11 1 2 3 4 5 6 7 8 of 10"}, {oneToTen + " of -1", "", oneToTen + " of -1", oneToTen + " of -1"}, {oneToTen + " of -1", "1", failed, failed}, {oneToTen + " of -1", oneToTen, failed, failed},
		{"9999 of 3", "-9999 9999", "9999 -9999 9999 of 3", "9999 -9999 9999 of 3"},
	} {
		list := readNumbers(c.list)
		out, ok := impl.ExtendBack(readDeque(c.deque), list)
		expectDeque(t, out, ok, c.back, "ExtendBack(%q, %q)", c.deque, c.list)
		out, ok = impl.ExtendFront(readDeque(c.deque), list)
		expectDeque(t, out, ok, c.front, "ExtendFront(%q, %q)", c.deque, c.list)
		for _, most := range []int{-1, 10, len(list)} {
			out, ok = impl.AddDeques(readDeque(c.deque), impl.Deque{Items: list, Most: most})
			expectDeque(t, out, ok, c.back, "AddDeques(%q, %q of %d)", c.deque, c.list, most)
		}
	}
}

func TestBadNumbers(t *testing.T) {
	for _, s := range []string{"of -1", "of 0", "of 10", "1 of 1", "1 2 3 of 3", mixedDeque, oneToTen + " of 10", oneToTen + " of -1"} {
		d := readDeque(s)
		for _, list := range badNumbers() {
			out, ok := impl.ExtendBack(d, list)
			expectDeque(t, out, ok, failed, "ExtendBack(%q, %v)", s, list)
			out, ok = impl.ExtendFront(d, list)
			expectDeque(t, out, ok, failed, "ExtendFront(%q, %v)", s, list)
		}
		for _, x := range extremes {
			out, ok := impl.PushBack(d, x)
			expectDeque(t, out, ok, failed, "PushBack(%q, %d)", s, x)
			out, ok = impl.PushFront(d, x)
			expectDeque(t, out, ok, failed, "PushFront(%q, %d)", s, x)
			out, ok = impl.SetAt(d, 0, x)
			expectDeque(t, out, ok, failed, "SetAt(%q, 0, %d)", s, x)
			out, ok = impl.InsertAt(d, 0, x)
			expectDeque(t, out, ok, failed, "InsertAt(%q, 0, %d)", s, x)
			out, ok = impl.RemoveFirst(d, x)
			expectDeque(t, out, ok, failed, "RemoveFirst(%q, %d)", s, x)
			if at, count := impl.IndexIn(d, x, 0, 10), impl.CountIn(d, x); at != -1 || count != 0 {
				t.Errorf("of %q IndexIn %d = %d, CountIn = %d", s, x, at, count)
			}
		}
	}
}

// TestPops tries pops at both ends.
func TestPops(t *testing.T) {
	for _, c := range []struct {
		deque, back string
		last        int
		front       string
		first       int
	}{
		{"of -1", failed, 0, failed, 0}, {"of 0", failed, 0, failed, 0}, {"of 10", failed, 0, failed, 0}, {"7 of -1", "of -1", 7, "of -1", 7}, {"7 of 1", "of 1", 7, "of 1", 7}, {"0 of 10", "of 10", 0, "of 10", 0},
		{"1 2 of 2", "1 of 2", 2, "2 of 2", 1}, {"5 6 7 6 of -1", "5 6 7 of -1", 6, "6 7 6 of -1", 5}, {"-9999 0 9999 of 5", "-9999 0 of 5", 9999, "0 9999 of 5", -9999},
		{oneToTen + " of -1", "1 2 3 4 5 6 7 8 9 of -1", 10, "2 3 4 5 6 7 8 9 10 of -1", 1}, {oneToTen + " of 10", "1 2 3 4 5 6 7 8 9 of 10", 10, "2 3 4 5 6 7 8 9 10 of 10", 1},
	} {
		out, x, ok := impl.PopBack(readDeque(c.deque))
		expectDeque(t, out, ok, c.back, "PopBack(%q)", c.deque)
		if x != c.last {
			t.Errorf("PopBack(%q) gives the number %d, want %d", c.deque, x, c.last)
		}
		out, x, ok = impl.PopFront(readDeque(c.deque))
		expectDeque(t, out, ok, c.front, "PopFront(%q)", c.deque)
		if x != c.first {
			t.Errorf("PopFront(%q) gives the number %d, want %d", c.deque, x, c.first)
		}
	}
}

func TestRotateDeque(t *testing.T) {
	for _, c := range []struct {
		deque string
		n     int
		want  string
	}{
		{"1 2 3 4 of -1", 0, "1 2 3 4 of -1"}, {"1 2 3 4 of -1", 1, "4 1 2 3 of -1"}, {"1 2 3 4 of -1", 3, "2 3 4 1 of -1"}, {"1 2 3 4 of -1", 4, "1 2 3 4 of -1"}, {"1 2 3 4 of -1", 5, "4 1 2 3 of -1"}, {"1 2 3 4 of -1", 6, "3 4 1 2 of -1"}, {"1 2 3 4 of -1", 4000, "1 2 3 4 of -1"},
		{"1 2 3 4 of 4", -1, "2 3 4 1 of 4"}, {"1 2 3 4 of 4", -3, "4 1 2 3 of 4"}, {"1 2 3 4 of 4", -4, "1 2 3 4 of 4"}, {"1 2 3 4 of 4", -5, "2 3 4 1 of 4"}, {"1 2 3 4 of 4", -4002, "3 4 1 2 of 4"},
		// The greatest int leaves 3 if divided by 4, 1 by 3 and 7 by 10; the least one leaves 0, -2 and -8.
		{"1 2 3 4 of 7", math.MaxInt, "2 3 4 1 of 7"}, {"1 2 3 4 of 7", math.MinInt, "1 2 3 4 of 7"}, {"1 2 3 of 7", math.MaxInt, "3 1 2 of 7"}, {"1 2 3 of 7", math.MinInt, "3 1 2 of 7"}, {"1 2 3 of 7", math.MinInt + 1, "2 3 1 of 7"},
		{"1 2 of 2", math.MaxInt, "2 1 of 2"}, {"1 2 of 2", math.MinInt, "1 2 of 2"}, {"1 2 of 2", 1, "2 1 of 2"}, {"1 2 of 2", -1, "2 1 of 2"},
		{"7 of 1", 0, "7 of 1"}, {"7 of 1", 1, "7 of 1"}, {"7 of 1", -1, "7 of 1"}, {"7 of 1", math.MaxInt, "7 of 1"}, {"7 of 1", math.MinInt, "7 of 1"},
		{"of 0", 0, "of 0"}, {"of 0", 1, "of 0"}, {"of -1", -1, "of -1"}, {"of -1", math.MaxInt, "of -1"}, {"of 10", math.MinInt, "of 10"},
		{oneToTen + " of 10", 3, "8 9 10 1 2 3 4 5 6 7 of 10"}, {oneToTen + " of -1", -3, "4 5 6 7 8 9 10 1 2 3 of -1"}, {oneToTen + " of -1", 10, oneToTen + " of -1"}, {oneToTen + " of 10", -10, oneToTen + " of 10"}, {oneToTen + " of -1", 9, "2 3 4 5 6 7 8 9 10 1 of -1"}, {oneToTen + " of -1", 11, "10 1 2 3 4 5 6 7 8 9 of -1"},
		{oneToTen + " of 10", math.MaxInt, "4 5 6 7 8 9 10 1 2 3 of 10"}, {oneToTen + " of 10", math.MinInt, "9 10 1 2 3 4 5 6 7 8 of 10"},
	} {
		expectDeque(t, impl.RotateDeque(readDeque(c.deque), c.n), true, c.want, "RotateDeque(%q, %d)", c.deque, c.n)
	}
}

func TestTurnDeque(t *testing.T) {
	for _, c := range []struct{ deque, want string }{
		{"of -1", "of -1"}, {"of 0", "of 0"}, {"of 10", "of 10"}, {"7 of 1", "7 of 1"}, {"1 2 of 5", "2 1 of 5"}, {"1 2 3 of 3", "3 2 1 of 3"}, {"5 6 7 6 of -1", "6 7 6 5 of -1"}, {oneToTen + " of 10", tenToOne + " of 10"}, {oneToTen + " of -1", tenToOne + " of -1"},
	} {
		expectDeque(t, impl.TurnDeque(readDeque(c.deque)), true, c.want, "TurnDeque(%q)", c.deque)
	}
}

// TestPlacesFromBothEnds tries to get, set and delete at an index; one beyond either end has no number.
func TestPlacesFromBothEnds(t *testing.T) {
	for _, c := range []struct {
		deque    string
		k, got   int
		set, del string
	}{
		{mixedDeque, 0, 5, "9 6 7 6 of -1", "6 7 6 of -1"}, {mixedDeque, 1, 6, "5 9 7 6 of -1", "5 7 6 of -1"}, {mixedDeque, 3, 6, "5 6 7 9 of -1", "5 6 7 of -1"}, {mixedDeque, 4, 0, failed, failed}, {mixedDeque, 5, 0, failed, failed},
		{mixedDeque, -1, 6, "5 6 7 9 of -1", "5 6 7 of -1"}, {mixedDeque, -2, 7, "5 6 9 6 of -1", "5 6 6 of -1"}, {mixedDeque, -4, 5, "9 6 7 6 of -1", "6 7 6 of -1"}, {mixedDeque, -5, 0, failed, failed}, {mixedDeque, -6, 0, failed, failed}, {mixedDeque, -8, 0, failed, failed},
		{mixedDeque, math.MaxInt, 0, failed, failed}, {mixedDeque, math.MinInt, 0, failed, failed}, {mixedDeque, math.MinInt + 3, 0, failed, failed},
		{"7 of 1", 0, 7, "9 of 1", "of 1"}, {"7 of 1", -1, 7, "9 of 1", "of 1"}, {"7 of 1", 1, 0, failed, failed}, {"7 of 1", -2, 0, failed, failed}, {"0 of 10", 0, 0, "9 of 10", "of 10"},
		{"of -1", 0, 0, failed, failed}, {"of -1", -1, 0, failed, failed}, {"of 0", 0, 0, failed, failed}, {"of 0", -1, 0, failed, failed}, {"of 10", 1, 0, failed, failed}, {"of 10", math.MinInt, 0, failed, failed},
		{"1 2 3 of 3", 2, 3, "1 2 9 of 3", "1 2 of 3"}, {"1 2 3 of 10", 3, 0, failed, failed},
		{oneToTen + " of 10", 9, 10, "1 2 3 4 5 6 7 8 9 9 of 10", "1 2 3 4 5 6 7 8 9 of 10"}, {oneToTen + " of 10", -10, 1, "9 2 3 4 5 6 7 8 9 10 of 10", "2 3 4 5 6 7 8 9 10 of 10"}, {oneToTen + " of -1", 10, 0, failed, failed}, {oneToTen + " of -1", -11, 0, failed, failed},
	} {
		d := readDeque(c.deque)
		if x, ok := impl.GetAt(d, c.k); x != c.got || ok != (c.set != failed) {
			t.Errorf("GetAt(%q, %d) = %d, %v, want %d", c.deque, c.k, x, ok, c.got)
		}
		out, ok := impl.SetAt(d, c.k, 9)
		expectDeque(t, out, ok, c.set, "SetAt(%q, %d, 9)", c.deque, c.k)
		out, ok = impl.DeleteAt(d, c.k)
		expectDeque(t, out, ok, c.del, "DeleteAt(%q, %d)", c.deque, c.k)
	}
	for _, x := range []int{9999, -9999} {
		out, ok := impl.SetAt(readDeque("1 2 of 2"), -2, x)
		expectDeque(t, out, ok, fmt.Sprintf("%d 2 of 2", x), "SetAt of %d", x)
	}
}

func TestInsertAt(t *testing.T) {
	for _, c := range []struct {
		deque string
		k     int
		want  string
	}{
		{mixedDeque, 0, "9 5 6 7 6 of -1"}, {mixedDeque, 1, "5 9 6 7 6 of -1"}, {mixedDeque, 3, "5 6 7 9 6 of -1"}, {mixedDeque, 4, "5 6 7 6 9 of -1"}, {mixedDeque, 5, "5 6 7 6 9 of -1"}, {mixedDeque, math.MaxInt, "5 6 7 6 9 of -1"},
		{mixedDeque, -1, "5 6 7 9 6 of -1"}, {mixedDeque, -3, "5 9 6 7 6 of -1"}, {mixedDeque, -4, "9 5 6 7 6 of -1"}, {mixedDeque, -5, "9 5 6 7 6 of -1"}, {mixedDeque, -99, "9 5 6 7 6 of -1"}, {mixedDeque, math.MinInt, "9 5 6 7 6 of -1"},
		{"of -1", 0, "9 of -1"}, {"of -1", -1, "9 of -1"}, {"of -1", 1, "9 of -1"}, {"of 1", 0, "9 of 1"}, {"of 10", math.MaxInt, "9 of 10"}, {"of 10", math.MinInt, "9 of 10"}, {"of 0", 0, failed}, {"of 0", 5, failed}, {"of 0", -5, failed},
		{"7 of 2", 0, "9 7 of 2"}, {"7 of 2", 1, "7 9 of 2"}, {"7 of 2", -1, "9 7 of 2"}, {"7 of 2", -2, "9 7 of 2"}, {"7 of 2", 2, "7 9 of 2"}, {"7 of 1", 0, failed}, {"7 of 1", 1, failed}, {"7 of 1", -1, failed}, {"1 2 of 2", 1, failed}, {"1 2 of 3", 1, "1 9 2 of 3"},
		{"1 2 3 4 5 6 7 8 9 of -1", 9, "1 2 3 4 5 6 7 8 9 9 of -1"}, {"1 2 3 4 5 6 7 8 9 of 10", -9, "9 1 2 3 4 5 6 7 8 9 of 10"}, {"1 2 3 4 5 6 7 8 9 of 9", 0, failed},
		{oneToTen + " of -1", 0, failed}, {oneToTen + " of -1", 10, failed}, {oneToTen + " of 10", 0, failed}, {oneToTen + " of 10", -99, failed}, {oneToTen + " of 10", 99, failed},
	} {
		out, ok := impl.InsertAt(readDeque(c.deque), c.k, 9)
		expectDeque(t, out, ok, c.want, "InsertAt(%q, %d, 9)", c.deque, c.k)
	}
	for _, x := range []int{9999, -9999} {
		out, ok := impl.InsertAt(readDeque("1 2 of 3"), -1, x)
		expectDeque(t, out, ok, fmt.Sprintf("1 %d 2 of 3", x), "InsertAt of %d", x)
	}
}

func TestIndexIn(t *testing.T) {
	for _, c := range []struct {
		deque           string
		x, from, to, at int
	}{
		{mixedDeque, 6, 0, 4, 1}, {mixedDeque, 6, 1, 4, 1}, {mixedDeque, 6, 1, 2, 1}, {mixedDeque, 6, 2, 4, 3}, {mixedDeque, 6, 3, 4, 3}, {mixedDeque, 6, 2, 3, -1}, {mixedDeque, 6, 0, 1, -1}, {mixedDeque, 5, 0, 1, 0}, {mixedDeque, 5, 1, 4, -1}, {mixedDeque, 8, 0, 4, -1}, {mixedDeque, 0, 0, 4, -1},
		// The bounds are counted from the end.
		{mixedDeque, 6, -1, 4, 3}, {mixedDeque, 6, -2, 4, 3}, {mixedDeque, 6, -3, 4, 1}, {mixedDeque, 6, -3, -2, 1}, {mixedDeque, 6, -4, -3, -1}, {mixedDeque, 6, 0, -1, 1}, {mixedDeque, 6, 2, -1, -1}, {mixedDeque, 5, -4, -3, 0}, {mixedDeque, 7, -2, -1, 2}, {mixedDeque, 7, 0, -2, -1},
		// The bounds are beyond the ends.
		{mixedDeque, 6, 2, 99, 3}, {mixedDeque, 6, -99, 99, 1}, {mixedDeque, 5, -5, 99, 0}, {mixedDeque, 5, -99, -4, -1}, {mixedDeque, 5, -99, -3, 0}, {mixedDeque, 6, 4, 99, -1}, {mixedDeque, 6, 99, 4, -1}, {mixedDeque, 6, 0, -99, -1}, {mixedDeque, 6, -99, -99, -1}, {mixedDeque, 6, 99, 99, -1},
		{mixedDeque, 6, math.MinInt, math.MaxInt, 1}, {mixedDeque, 6, math.MaxInt, math.MinInt, -1}, {mixedDeque, 6, math.MinInt, math.MinInt, -1}, {mixedDeque, 6, math.MaxInt, math.MaxInt, -1},
		// The bounds cross, or meet.
		{mixedDeque, 6, 3, 1, -1}, {mixedDeque, 6, 1, 1, -1}, {mixedDeque, 6, 2, 1, -1}, {mixedDeque, 6, -1, 1, -1}, {mixedDeque, 6, 3, -3, -1}, {mixedDeque, 6, -1, -3, -1}, {mixedDeque, 5, 0, 0, -1}, {mixedDeque, 6, 4, 4, -1},
		{"of -1", 0, 0, 0, -1}, {"of 0", 0, 0, 10, -1}, {"of 10", 0, -1, 1, -1}, {"of 10", 0, math.MinInt, math.MaxInt, -1}, {"7 of 1", 7, 0, 1, 0}, {"7 of 1", 7, -1, 1, 0}, {"7 of 1", 7, -1, 0, -1}, {"7 of 1", 7, 0, -1, -1}, {"7 of 1", 7, 1, 2, -1}, {"7 of 1", 7, -99, 99, 0},
		{oneToTen + " of 10", 10, 0, 10, 9}, {oneToTen + " of 10", 10, 0, 9, -1}, {oneToTen + " of -1", 10, 9, 11, 9}, {oneToTen + " of -1", 1, -10, -9, 0}, {limitTen + " of -1", -9999, 2, 10, 4}, {limitTen + " of 10", 9999, -1, 10, 9},
	} {
		if at := impl.IndexIn(readDeque(c.deque), c.x, c.from, c.to); at != c.at {
			t.Errorf("IndexIn(%q, %d, %d, %d) = %d, want %d", c.deque, c.x, c.from, c.to, at, c.at)
		}
	}
}

// TestCountedNumbers tries to count a number, and to remove the first one.
func TestCountedNumbers(t *testing.T) {
	for _, c := range []struct {
		deque    string
		x, count int
		want     string
	}{
		{mixedDeque, 6, 2, "5 7 6 of -1"}, {mixedDeque, 5, 1, "6 7 6 of -1"}, {mixedDeque, 7, 1, "5 6 6 of -1"}, {mixedDeque, 1, 0, failed}, {mixedDeque, 0, 0, failed}, {mixedDeque, -1, 0, failed},
		{"of -1", 0, 0, failed}, {"of 0", 0, 0, failed}, {"of 10", 1, 0, failed}, {"7 of 1", 7, 1, "of 1"}, {"7 of 1", 6, 0, failed}, {"0 of 10", 0, 1, "of 10"}, {"3 3 3 of 3", 3, 3, "3 3 of 3"}, {"-1 1 -1 of 5", -1, 2, "1 -1 of 5"},
		{oneToTen + " of 10", 10, 1, "1 2 3 4 5 6 7 8 9 of 10"}, {oneToTen + " of -1", 1, 1, "2 3 4 5 6 7 8 9 10 of -1"}, {limitTen + " of 10", 9999, 4, "-9999 0 9999 -9999 0 9999 -9999 0 9999 of 10"}, {limitTen + " of -1", -9999, 3, "9999 0 9999 -9999 0 9999 -9999 0 9999 of -1"},
	} {
		if count := impl.CountIn(readDeque(c.deque), c.x); count != c.count {
			t.Errorf("CountIn(%q, %d) = %d, want %d", c.deque, c.x, count, c.count)
		}
		out, ok := impl.RemoveFirst(readDeque(c.deque), c.x)
		expectDeque(t, out, ok, c.want, "RemoveFirst(%q, %d)", c.deque, c.x)
	}
}

func TestWithMost(t *testing.T) {
	for _, c := range []struct {
		deque string
		most  int
		want  string
	}{
		{mixedDeque, 2, "7 6 of 2"}, {mixedDeque, 0, "of 0"}, {mixedDeque, 1, "6 of 1"}, {mixedDeque, 4, "5 6 7 6 of 4"}, {mixedDeque, 5, "5 6 7 6 of 5"}, {mixedDeque, 10, "5 6 7 6 of 10"}, {mixedDeque, -1, mixedDeque}, {mixedDeque, -2, failed}, {mixedDeque, 11, failed}, {mixedDeque, math.MaxInt, failed}, {mixedDeque, math.MinInt, failed},
		{"of 0", -1, "of -1"}, {"of 0", 10, "of 10"}, {"of -1", 0, "of 0"}, {"of 10", 0, "of 0"}, {"of 0", 11, failed}, {"of 0", -2, failed}, {"7 of 1", 0, "of 0"}, {"7 of 1", 1, "7 of 1"}, {"7 of 1", -1, "7 of -1"}, {"7 of 1", 2, "7 of 2"},
		{"1 2 3 of 3", 2, "2 3 of 2"}, {"1 2 3 of 3", -1, "1 2 3 of -1"}, {"1 2 3 of 3", 9, "1 2 3 of 9"}, {oneToTen + " of -1", 10, oneToTen + " of 10"}, {oneToTen + " of 10", -1, oneToTen + " of -1"}, {oneToTen + " of 10", 9, "2 3 4 5 6 7 8 9 10 of 9"}, {oneToTen + " of -1", 0, "of 0"}, {oneToTen + " of 10", 11, failed},
	} {
		out, ok := impl.WithMost(readDeque(c.deque), c.most)
		expectDeque(t, out, ok, c.want, "WithMost(%q, %d)", c.deque, c.most)
	}
}

func TestRepeatDeque(t *testing.T) {
	for _, c := range []struct {
		deque string
		n     int
		want  string
	}{
		{"1 2 of -1", 0, "of -1"}, {"1 2 of -1", 1, "1 2 of -1"}, {"1 2 of -1", 3, "1 2 1 2 1 2 of -1"}, {"1 2 of -1", 5, "1 2 1 2 1 2 1 2 1 2 of -1"}, {"1 2 of -1", 6, failed}, {"1 2 of -1", 10, failed}, {"1 2 of -1", -1, failed}, {"1 2 of -1", 11, failed}, {"1 2 of -1", math.MaxInt, failed}, {"1 2 of -1", math.MinInt, failed},
		{"1 2 of 3", 0, "of 3"}, {"1 2 of 3", 1, "1 2 of 3"}, {"1 2 of 3", 2, "2 1 2 of 3"}, {"1 2 of 3", 10, "2 1 2 of 3"}, {"1 2 of 3", 11, failed}, {"1 2 of 3", -1, failed}, {"1 2 of 2", 7, "1 2 of 2"}, {"1 2 3 of 10", 4, "3 1 2 3 1 2 3 1 2 3 of 10"}, {"1 2 3 of -1", 3, "1 2 3 1 2 3 1 2 3 of -1"}, {"1 2 3 of -1", 4, failed},
		{"of -1", 0, "of -1"}, {"of -1", 10, "of -1"}, {"of -1", 11, failed}, {"of -1", -1, failed}, {"of 0", 0, "of 0"}, {"of 0", 10, "of 0"}, {"of 0", 11, failed}, {"of 10", 3, "of 10"}, {"7 of 1", 0, "of 1"}, {"7 of 1", 10, "7 of 1"}, {"7 of -1", 10, "7 7 7 7 7 7 7 7 7 7 of -1"}, {"7 of 10", 9, "7 7 7 7 7 7 7 7 7 of 10"},
		{oneToTen + " of -1", 0, "of -1"}, {oneToTen + " of -1", 1, oneToTen + " of -1"}, {oneToTen + " of -1", 2, failed}, {oneToTen + " of 10", 0, "of 10"}, {oneToTen + " of 10", 1, oneToTen + " of 10"}, {oneToTen + " of 10", 10, oneToTen + " of 10"}, {"1 2 3 4 5 6 7 8 9 of 10", 10, "9 1 2 3 4 5 6 7 8 9 of 10"},
	} {
		out, ok := impl.RepeatDeque(readDeque(c.deque), c.n)
		expectDeque(t, out, ok, c.want, "RepeatDeque(%q, %d)", c.deque, c.n)
	}
}

func TestCompareDeques(t *testing.T) {
	for _, c := range []struct {
		a, b string
		want int
	}{
		{"of -1", "of 0", 0}, {"of -1", "0 of 1", -1}, {"of 10", "-9999 of -1", -1}, {"1 of 1", "1 of 10", 0}, {"1 of 1", "2 of 1", -1}, {"-1 of 1", "0 of 1", -1}, {"-1 of 1", "-2 of 1", 1}, {"-9999 of 1", "9999 of 1", -1},
		{"1 2 of 2", "1 3 of -1", -1}, {"1 of -1", "1 0 of 5", -1}, {"1 of -1", "1 -9999 of 5", -1}, {"2 of -1", "1 9 of 5", 1}, {"1 0 0 of 3", "1 0 of 3", 1}, {"1 -1 of 3", "1 of 3", 1}, {"0 0 of 3", "0 of 3", 1}, {"2 1 of -1", "1 2 of -1", 1}, {"1 2 3 of 3", "1 2 3 of -1", 0}, {"1 3 2 of 3", "1 2 3 4 of 4", 1}, {"9 of 1", "10 of 1", -1},
		{oneToTen + " of 10", oneToTen + " of -1", 0}, {oneToTen + " of 10", tenToOne + " of 10", -1}, {oneToTen + " of 10", "1 2 3 4 5 6 7 8 9 9 of 10", 1}, {oneToTen + " of 10", "1 2 3 4 5 6 7 8 9 of -1", 1}, {oneToTen + " of 10", "1 2 3 4 5 6 7 8 9 11 of -1", -1}, {limitTen + " of 10", "of 0", 1}, {limitTen + " of 10", limitTen + " of 10", 0},
	} {
		if x, ok := impl.CompareDeques(readDeque(c.a), readDeque(c.b)); x != c.want || !ok {
			t.Errorf("CompareDeques(%q, %q) = %d, %v, want %d", c.a, c.b, x, ok, c.want)
		}
		if x, ok := impl.CompareDeques(readDeque(c.b), readDeque(c.a)); x != -c.want || !ok {
			t.Errorf("CompareDeques(%q, %q) = %d, %v, want %d", c.b, c.a, x, ok, -c.want)
		}
	}
}

func TestWindowSums(t *testing.T) {
	for _, c := range []struct {
		deque string
		k     int
		want  string
	}{
		{mixedDeque, 1, "5 6 7 6"}, {mixedDeque, 2, "11 13 13"}, {mixedDeque, 3, "18 19"}, {mixedDeque, 4, "24"}, {mixedDeque, 5, ""}, {mixedDeque, 10, ""}, {mixedDeque, 11, ""}, {mixedDeque, 0, ""}, {mixedDeque, -1, ""}, {mixedDeque, -4, ""}, {mixedDeque, math.MaxInt, ""}, {mixedDeque, math.MinInt, ""},
		{"of -1", 1, ""}, {"of 0", 1, ""}, {"of 0", 0, ""}, {"of 10", 10, ""}, {"7 of 1", 1, "7"}, {"7 of 1", 2, ""}, {"7 of 1", 0, ""}, {"-1 1 0 of 3", 2, "0 1"}, {"1 -1 1 -1 of 4", 2, "0 0 0"},
		{oneToTen + " of 10", 10, "55"}, {oneToTen + " of -1", 9, "45 54"}, {oneToTen + " of -1", 1, oneToTen}, {oneToTen + " of 10", 5, "15 20 25 30 35 40"}, {oneToTen + " of 10", 11, ""},
		{"9999 9999 9999 9999 9999 9999 9999 9999 9999 9999 of 10", 10, "99990"}, {"-9999 -9999 -9999 -9999 -9999 -9999 -9999 -9999 -9999 -9999 of -1", 10, "-99990"},
	} {
		if sums := impl.WindowSums(readDeque(c.deque), c.k); !slices.Equal(sums, readNumbers(c.want)) {
			t.Errorf("WindowSums(%q, %d) = %v, want %q", c.deque, c.k, sums, c.want)
		}
	}
}
