package tests

import (
	"math"
	"slices"
	"testing"

	"loop.example/tallychains/impl"
)

type dequeCall func(d impl.Deque) (impl.Deque, bool)

// zeroDeque reports whether a deque is the zero value.
func zeroDeque(d impl.Deque) bool {
	return len(d.Items) == 0 && d.Most == 0
}

// dequeCalls returns calls of all functions that give a deque. RotateDeque and TurnDeque tell by it alone that they fail.
func dequeCalls() map[string]dequeCall {
	calls := map[string]dequeCall{
		"TurnDeque": func(d impl.Deque) (impl.Deque, bool) { out := impl.TurnDeque(d); return out, !zeroDeque(out) },
		"PopBack":   func(d impl.Deque) (impl.Deque, bool) { out, x, ok := impl.PopBack(d); return out, ok || x != 0 },
		"PopFront":  func(d impl.Deque) (impl.Deque, bool) { out, x, ok := impl.PopFront(d); return out, ok || x != 0 },
		"AddDeques": func(d impl.Deque) (impl.Deque, bool) { return impl.AddDeques(d, impl.Deque{Items: []int{1}, Most: 2}) },
		"AddDeques behind": func(d impl.Deque) (impl.Deque, bool) {
			return impl.AddDeques(impl.Deque{Items: []int{1}, Most: 2}, d)
		},
		"AddDeques behind none":  func(d impl.Deque) (impl.Deque, bool) { return impl.AddDeques(impl.Deque{}, d) },
		"AddDeques twice":        func(d impl.Deque) (impl.Deque, bool) { return impl.AddDeques(d, d) },
		"ExtendBack with none":   func(d impl.Deque) (impl.Deque, bool) { return impl.ExtendBack(d, nil) },
		"ExtendFront with none":  func(d impl.Deque) (impl.Deque, bool) { return impl.ExtendFront(d, nil) },
		"ExtendBack with itself": func(d impl.Deque) (impl.Deque, bool) { return impl.ExtendBack(d, d.Items) },
	}
	for _, n := range []int{-11, -2, -1, 0, 1, 2, 10, 11, math.MinInt, math.MaxInt} {
		name := " " + writeDeque(impl.Deque{Most: n})
		calls["PushBack"+name] = func(d impl.Deque) (impl.Deque, bool) { return impl.PushBack(d, n) }
		calls["PushFront"+name] = func(d impl.Deque) (impl.Deque, bool) { return impl.PushFront(d, n) }
		calls["ExtendBack"+name] = func(d impl.Deque) (impl.Deque, bool) { return impl.ExtendBack(d, []int{1, n}) }
		calls["ExtendFront"+name] = func(d impl.Deque) (impl.Deque, bool) { return impl.ExtendFront(d, []int{1, n}) }
		calls["RotateDeque"+name] = func(d impl.Deque) (impl.Deque, bool) { out := impl.RotateDeque(d, n); return out, !zeroDeque(out) }
		calls["SetAt"+name] = func(d impl.Deque) (impl.Deque, bool) { return impl.SetAt(d, n, 77) }
		calls["DeleteAt"+name] = func(d impl.Deque) (impl.Deque, bool) { return impl.DeleteAt(d, n) }
		calls["InsertAt"+name] = func(d impl.Deque) (impl.Deque, bool) { return impl.InsertAt(d, n, 77) }
		calls["RemoveFirst"+name] = func(d impl.Deque) (impl.Deque, bool) { return impl.RemoveFirst(d, n) }
		calls["WithMost"+name] = func(d impl.Deque) (impl.Deque, bool) { return impl.WithMost(d, n) }
		calls["RepeatDeque"+name] = func(d impl.Deque) (impl.Deque, bool) { return impl.RepeatDeque(d, n) }
	}
	return calls
}

func TestInvalidDeques(t *testing.T) {
	for _, bad := range invalidDeques() {
		for name, f := range dequeCalls() {
			out, ok := f(bad)
			expectDeque(t, out, ok, failed, "%s of %q", name, writeDeque(bad))
		}
		for _, n := range []int{-2, -1, 0, 1, 10, math.MinInt, math.MaxInt} {
			if x, ok := impl.GetAt(bad, n); ok || x != 0 {
				t.Errorf("GetAt(%q, %d) = %d, %v", writeDeque(bad), n, x, ok)
			}
			if at, count := impl.IndexIn(bad, n, 0, 10), impl.CountIn(bad, n); at != -1 || count != -1 {
				t.Errorf("of %q IndexIn %d = %d, CountIn = %d", writeDeque(bad), n, at, count)
			}
			if sums := impl.WindowSums(bad, n); len(sums) != 0 {
				t.Errorf("WindowSums(%q, %d) = %v", writeDeque(bad), n, sums)
			}
		}
		for _, other := range []impl.Deque{bad, {}, readDeque("1 of 1"), readDeque(oneToTen + " of -1")} {
			for _, pair := range [][]impl.Deque{{bad, other}, {other, bad}} {
				if x, ok := impl.CompareDeques(pair[0], pair[1]); ok || x != 0 {
					t.Errorf("CompareDeques(%q, %q) = %d, %v", writeDeque(pair[0]), writeDeque(pair[1]), x, ok)
				}
			}
		}
	}
}

// roomyNumbers returns numbers with room behind them, which nobody may write to, and the whole of it.
func roomyNumbers(s string) (list, whole []int) {
	whole = append(readNumbers(s), 71, 72, 73)
	return whole[:len(whole)-3], whole
}

// spoilNumbers writes over a result and the room behind it.
func spoilNumbers(out []int) {
	for i := range out[:cap(out)] {
		out[:cap(out)][i] = 99
	}
}

// TestDequesStay checks that no call changes its argument, that no result shares memory with it, and that a call gives the same once more.
func TestDequesStay(t *testing.T) {
	for _, s := range []string{"", "7", "5 6 7 6", "1 2 1 0 2", oneToTen} {
		for _, most := range []int{-1, len(readNumbers(s)), 10} {
			for name, f := range dequeCalls() {
				list, whole := roomyNumbers(s)
				d := impl.Deque{Items: list, Most: most}
				out, _ := f(d)
				before := writeDeque(out)
				spoilNumbers(out.Items)
				if _, want := roomyNumbers(s); !slices.Equal(whole, want) {
					t.Errorf("%s has changed its argument %v to %v", name, want, whole)
				}
				if again, _ := f(d); writeDeque(again) != before {
					t.Errorf("%s of %q = %q, and once more %q", name, writeDeque(d), before, writeDeque(again))
				}
			}
		}
	}
}

func TestNumbersStay(t *testing.T) {
	for _, s := range []string{"3", "3 4 5", oneToTen} {
		for _, most := range []int{-1, 0, 2, 10} {
			for name, f := range map[string]func(d impl.Deque, list []int) (impl.Deque, bool){"ExtendBack": impl.ExtendBack, "ExtendFront": impl.ExtendFront} {
				list, whole := roomyNumbers(s)
				out, _ := f(impl.Deque{Most: most}, list)
				spoilNumbers(out.Items)
				if _, want := roomyNumbers(s); !slices.Equal(whole, want) {
					t.Errorf("%s has changed its numbers %v to %v", name, want, whole)
				}
			}
		}
	}
	list, whole := roomyNumbers("5 6 7 6")
	d := impl.Deque{Items: list, Most: -1}
	impl.ValidDeque(d)
	impl.GetAt(d, -1)
	impl.IndexIn(d, 6, -3, 9)
	impl.CountIn(d, 6)
	impl.CompareDeques(d, d)
	spoilNumbers(impl.WindowSums(d, 1))
	if _, want := roomyNumbers("5 6 7 6"); !slices.Equal(whole, want) {
		t.Errorf("a call without a deque as its result has changed %v to %v", want, whole)
	}
}
