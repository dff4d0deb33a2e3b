package tests

import (
	"math"
	"slices"
	"testing"

	"loop.example/tallychains/impl"
)

// invalidLists returns items that are not valid: too many, keys that are none or there twice, and numbers out of range.
func invalidLists() [][]impl.Item {
	lists := [][]impl.Item{
		read("a:1 b:1 c:1 d:1 e:1 f:1 g:1 h:1 i:1"),
		read("a:1 a:1"), read("a:1 b:2 a:0"), read("a:1 b:2 c:3 d:4 e:5 f:6 g:7 a:8"),
	}
	for _, key := range []string{"", "abcde", "A", "Z", "aB", "a1", "1a", "a b", " a", "a ", "a:", "`", "{", "-", "é", "ñ", "a\x00", "\xff"} {
		lists = append(lists, []impl.Item{{Key: key, N: 1}}, []impl.Item{{Key: "b", N: 1}, {Key: key, N: 0}})
	}
	for _, n := range []int{10000, -10000, math.MaxInt, math.MinInt, math.MaxInt - 1, math.MinInt + 1} {
		lists = append(lists, []impl.Item{{Key: "a", N: n}}, []impl.Item{{Key: "b", N: 1}, {Key: "a", N: n}})
	}
	return lists
}

type pairCall func(a, b []impl.Item) ([]impl.Item, bool)

type pairCompare func(a, b []impl.Item) bool

type listCall func(list []impl.Item) ([]impl.Item, bool)

func pairCalls() map[string]pairCall {
	return map[string]pairCall{
		"UpdateCounts": impl.UpdateCounts, "SubtractCounts": impl.SubtractCounts, "AddCounts": impl.AddCounts, "LessCounts": impl.LessCounts, "JoinCounts": impl.JoinCounts,
		"MeetCounts": func(a, b []impl.Item) ([]impl.Item, bool) { return impl.MeetCounts(a, b), false },
	}
}

func listCalls() map[string]listCall {
	return map[string]listCall{
		"KeepCounts":    func(list []impl.Item) ([]impl.Item, bool) { return impl.KeepCounts(list), false },
		"TurnCounts":    func(list []impl.Item) ([]impl.Item, bool) { return impl.TurnCounts(list), false },
		"DropZero":      func(list []impl.Item) ([]impl.Item, bool) { return impl.DropZero(list), false },
		"ScaleCounts 1": func(list []impl.Item) ([]impl.Item, bool) { return impl.ScaleCounts(list, 1) },
		"ScaleCounts 0": func(list []impl.Item) ([]impl.Item, bool) { return impl.ScaleCounts(list, 0) },
		"MostCommon -1": func(list []impl.Item) ([]impl.Item, bool) { return impl.MostCommon(list, -1), false },
		"MostCommon 1":  func(list []impl.Item) ([]impl.Item, bool) { return impl.MostCommon(list, 1), false },
		"MostCommon 0":  func(list []impl.Item) ([]impl.Item, bool) { return impl.MostCommon(list, 0), false },
	}
}

// refusePairs checks that calls and comparisons of two lists fail if either list is not valid.
func refusePairs(t *testing.T, calls map[string]pairCall, compares map[string]pairCompare) {
	t.Helper()
	valid := [][]impl.Item{nil, read("a:1 c:2"), read("a:-1 b:-1")}
	for _, bad := range invalidLists() {
		for _, good := range append(valid, bad) {
			for name, f := range calls {
				out, ok := f(bad, good)
				expect(t, out, ok, failed, "%s(%v, %v)", name, bad, good)
				out, ok = f(good, bad)
				expect(t, out, ok, failed, "%s(%v, %v)", name, good, bad)
			}
			for name, f := range compares {
				if f(bad, good) || f(good, bad) {
					t.Errorf("%s of %v and %v = true", name, good, bad)
				}
			}
		}
	}
}

// refuseLists checks that calls of one list fail if it is not valid.
func refuseLists(t *testing.T, calls map[string]listCall) {
	t.Helper()
	for _, bad := range invalidLists() {
		for name, f := range calls {
			out, ok := f(bad)
			expect(t, out, ok, failed, "%s(%v)", name, bad)
		}
	}
}

func TestInvalidPairs(t *testing.T) {
	refusePairs(t, pairCalls(), map[string]pairCompare{"WithinCounts": impl.WithinCounts, "SameCounts": impl.SameCounts})
}

func TestInvalidLists(t *testing.T) {
	refuseLists(t, listCalls())
	for _, bad := range invalidLists() {
		for _, key := range append(keysOf(bad), "z") {
			if n := impl.CountOf(bad, key); n != 0 {
				t.Errorf("CountOf(%v, %q) = %d", bad, key, n)
			}
		}
		if n := impl.TotalCount(bad); n != 0 {
			t.Errorf("TotalCount(%v) = %d", bad, n)
		}
		if out, ok := impl.Elements(bad); ok || len(out) != 0 {
			t.Errorf("Elements(%v) = %q, %v", bad, out, ok)
		}
		if s := impl.ItemsText(bad); s != "" {
			t.Errorf("ItemsText(%v) = %q", bad, s)
		}
	}
}

// roomy returns a list with room behind it, which nobody may write to, and the whole of it.
func roomy(s string) (list, whole []impl.Item) {
	whole = append(read(s), impl.Item{Key: "keep", N: 1}, impl.Item{Key: "this", N: 2})
	return whole[:len(whole)-2], whole
}

// The lists that calls are tried on to see whether they stay.
const firstList, secondList = "d:1 a:3 b:-1 c:0", "a:1 b:5 e:2 f:-3"

// spoil writes over a result and the room behind it, which shows in whatever shares its memory.
func spoil(out []impl.Item) {
	for i := range out[:cap(out)] {
		out[:cap(out)][i] = impl.Item{Key: "bad", N: 99}
	}
}

// stays checks that the whole of a roomy list is as it was.
func stays(t *testing.T, name string, s string, whole []impl.Item) {
	t.Helper()
	if _, want := roomy(s); !slices.Equal(whole, want) {
		t.Errorf("%s has changed its argument %q to %q", name, write(want), write(whole))
	}
}

// keepArguments checks that no call changes its arguments, and that no result shares memory with them.
func keepArguments(t *testing.T, pairs map[string]pairCall, lists map[string]listCall) {
	t.Helper()
	for name, f := range pairs {
		a, wholeA := roomy(firstList)
		b, wholeB := roomy(secondList)
		out, _ := f(a, b)
		spoil(out)
		stays(t, name, firstList, wholeA)
		stays(t, name, secondList, wholeB)
	}
	for name, f := range lists {
		list, whole := roomy(firstList)
		out, _ := f(list)
		spoil(out)
		stays(t, name, firstList, whole)
	}
}

func TestArgumentsStay(t *testing.T) {
	keepArguments(t, pairCalls(), listCalls())
	list, whole := roomy(firstList)
	impl.ValidItems(list)
	impl.CountOf(list, "a")
	impl.TotalCount(list)
	impl.Elements(list)
	impl.WithinCounts(list, list)
	impl.SameCounts(list, list)
	impl.ItemsText(list)
	stays(t, "a call without items as its result", firstList, whole)
	texts := []string{"b", "a", "b", "keep"}
	impl.CountTexts(texts[:3])
	if !slices.Equal(texts, []string{"b", "a", "b", "keep"}) {
		t.Errorf("CountTexts has changed its argument to %q", texts)
	}
}

// TestCallsKeepNoState checks that a call gives the same once more, whatever was called in between.
func TestCallsKeepNoState(t *testing.T) {
	a, b := read("d:1 a:3 b:-1 c:0"), read("a:1 b:5 e:2 f:-3")
	for name, f := range pairCalls() {
		before, _ := f(a, b)
		f(b, a)
		if again, _ := f(a, b); !slices.Equal(before, again) {
			t.Errorf("%s = %q, and once more %q", name, write(before), write(again))
		}
	}
}
