package tests

import (
	"math"
	"slices"
	"testing"

	"loop.example/tallychains/impl"
)

// invalidLists returns items that are not valid: too many, keys that are none or there twice, and numbers out of range.
func invalidLists() [][]impl.Item {
	lists := [][]impl.Item{
		read("a:1 b:1 c:1 d:1 e:1 f:1 g:1 h:1 i:1"),
		read("a:1 a:1"), read("a:1 b:2 a:0"), read("a:1 b:2 c:3 d:4 e:5 f:6 g:7 a:8"),
	}
	for _, key := range []string{"", "abcde", "A", "Z", "aB", "a1", "1a", "a b", " a", "a ", "a:", "`", "{", "-", "é", "ñ", "a\x00", "\xff"} {
		lists = append(lists, []impl.Item{{Key: key, N: 1}}, []impl.Item{{Key: "b", N: 1}, {Key: key, N: 0}})
	}
	for _, n := range []int{10000, -10000, math.MaxInt, math.MinInt, math.MaxInt - 1, math.MinInt + 1} {
		lists = append(lists, []impl.Item{{Key: "a", N: n}}, []impl.Item{{Key: "b", N: 1}, {Key: "a", N: n}})
	}
	return lists
}

type pairCall func(a, b []impl.Item) ([]impl.Item, bool)

type listCall func(list []impl.Item) ([]impl.Item, bool)

func pairCalls() map[string]pairCall {
	return map[string]pairCall{
		"UpdateCounts": impl.UpdateCounts, "SubtractCounts": impl.SubtractCounts, "AddCounts": impl.AddCounts, "LessCounts": impl.LessCounts, "JoinCounts": impl.JoinCounts,
		"MeetCounts": func(a, b []impl.Item) ([]impl.Item, bool) { return impl.MeetCounts(a, b), false },
	}
}

func listCalls() map[string]listCall {
	return map[string]listCall{
		"KeepCounts":    func(list []impl.Item) ([]impl.Item, bool) { return impl.KeepCounts(list), false },
		"TurnCounts":    func(list []impl.Item) ([]impl.Item, bool) { return impl.TurnCounts(list), false },
		"DropZero":      func(list []impl.Item) ([]impl.Item, bool) { return impl.DropZero(list), false },
		"ScaleCounts 1": func(list []impl.Item) ([]impl.Item, bool) { return impl.ScaleCounts(list, 1) },
		"ScaleCounts 0": func(list []impl.Item) ([]impl.Item, bool) { return impl.ScaleCounts(list, 0) },
		"MostCommon -1": func(list []impl.Item) ([]impl.Item, bool) { return impl.MostCommon(list, -1), false },
		"MostCommon 1":  func(list []impl.Item) ([]impl.Item, bool) { return impl.MostCommon(list, 1), false },
		"MostCommon 0":  func(list []impl.Item) ([]impl.Item, bool) { return impl.MostCommon(list, 0), false },
	}
}

func TestInvalidPairs(t *testing.T) {
	valid := [][]impl.Item{nil, read("a:1 c:2"), read("a:-1 b:-1")}
	for _, bad := range invalidLists() {
		for _, good := range append(valid, bad) {
			for name, f := range pairCalls() {
				if out, ok := f(bad, good); ok || len(out) != 0 {
					t.Errorf("%s(%v, %v) = %v, %v", name, bad, good, out, ok)
				}
				if out, ok := f(good, bad); ok || len(out) != 0 {
					t.Errorf("%s(%v, %v) = %v, %v", name, good, bad, out, ok)
				}
			}
			if impl.WithinCounts(bad, good) || impl.WithinCounts(good, bad) {
				t.Errorf("WithinCounts of %v and %v = true", good, bad)
			}
			if impl.SameCounts(bad, good) || impl.SameCounts(good, bad) {
				t.Errorf("SameCounts of %v and %v = true", good, bad)
			}
		}
	}
}

func TestInvalidLists(t *testing.T) {
	for _, bad := range invalidLists() {
		for name, f := range listCalls() {
			if out, ok := f(bad); ok || len(out) != 0 {
				t.Errorf("%s(%v) = %v, %v", name, bad, out, ok)
			}
		}
		for _, key := range append(keysOf(bad), "z") {
			if n := impl.CountOf(bad, key); n != 0 {
				t.Errorf("CountOf(%v, %q) = %d", bad, key, n)
			}
		}
		if n := impl.TotalCount(bad); n != 0 {
			t.Errorf("TotalCount(%v) = %d", bad, n)
		}
		if out, ok := impl.Elements(bad); ok || len(out) != 0 {
			t.Errorf("Elements(%v) = %q, %v", bad, out, ok)
		}
		if s := impl.ItemsText(bad); s != "" {
			t.Errorf("ItemsText(%v) = %q", bad, s)
		}
	}
}

// roomy returns a list with room behind it, which nobody may write to, and the whole of it.
func roomy(s string) (list, whole []impl.Item) {
	whole = append(read(s), impl.Item{Key: "keep", N: 1}, impl.Item{Key: "this", N: 2})
	return whole[:len(whole)-2], whole
}

// TestArgumentsStay checks that no call changes its arguments, and that no result shares memory with them.
func TestArgumentsStay(t *testing.T) {
	const first, second = "d:1 a:3 b:-1 c:0", "a:1 b:5 e:2 f:-3"
	spoil := func(out []impl.Item) {
		for i := range out[:cap(out)] {
			out[:cap(out)][i] = impl.Item{Key: "bad", N: 99}
		}
	}
	check := func(name string, s string, whole []impl.Item) {
		t.Helper()
		_, want := roomy(s)
		if !slices.Equal(whole, want) {
			t.Errorf("%s has changed its argument %q to %q", name, write(want), write(whole))
		}
	}
	for name, f := range pairCalls() {
		a, wholeA := roomy(first)
		b, wholeB := roomy(second)
		out, _ := f(a, b)
		spoil(out)
		check(name, first, wholeA)
		check(name, second, wholeB)
	}
	for name, f := range listCalls() {
		list, whole := roomy(first)
		out, _ := f(list)
		spoil(out)
		check(name, first, whole)
	}
	list, whole := roomy(first)
	impl.ValidItems(list)
	impl.CountOf(list, "a")
	impl.TotalCount(list)
	impl.Elements(list)
	impl.WithinCounts(list, list)
	impl.SameCounts(list, list)
	impl.ItemsText(list)
	check("a call without items as its result", first, whole)
	texts := []string{"b", "a", "b", "keep"}
	impl.CountTexts(texts[:3])
	if !slices.Equal(texts, []string{"b", "a", "b", "keep"}) {
		t.Errorf("CountTexts has changed its argument to %q", texts)
	}
}

// TestCallsKeepNoState checks that a call gives the same once more, whatever was called in between.
func TestCallsKeepNoState(t *testing.T) {
	a, b := read("d:1 a:3 b:-1 c:0"), read("a:1 b:5 e:2 f:-3")
	for name, f := range pairCalls() {
		before, _ := f(a, b)
		f(b, a)
		if again, _ := f(a, b); !slices.Equal(before, again) {
			t.Errorf("%s = %q, and once more %q", name, write(before), write(again))
		}
	}
}
