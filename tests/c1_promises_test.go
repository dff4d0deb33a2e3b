package tests

import (
	"slices"
	"strings"
	"testing"

	"loop.example/tallychains/impl"
)

// textLists returns lists of texts that are counted.
func textLists() [][]string {
	lists := [][]string{nil}
	for _, s := range []string{"a", "b a", "b a b ab", "a a a", "h g f e d c b a", "zzzz a zzzz a zzzz", "a b c a b c a", strings.Repeat("a b ab abc ", 10), strings.Repeat("z ", 40)} {
		lists = append(lists, strings.Fields(s))
	}
	return lists
}

func TestP3TextsAreCounted(t *testing.T) {
	for _, texts := range textLists() {
		list, ok := impl.CountTexts(texts)
		done(t, "CountTexts", list, ok)
		if impl.TotalCount(list) != len(texts) {
			t.Errorf("TotalCount of CountTexts(%q) = %d", texts, impl.TotalCount(list))
		}
		var grouped []string
		for i, text := range texts {
			if slices.Index(texts, text) == i {
				for _, other := range texts {
					if other == text {
						grouped = append(grouped, other)
					}
				}
			}
		}
		if out, ok := impl.Elements(list); !ok || !slices.Equal(out, grouped) {
			t.Errorf("Elements of CountTexts(%q) = %q, %v", texts, out, ok)
		}
	}
}

func TestP4CountsAreAddedKeyByKey(t *testing.T) {
	eachPair(samples(), func(a, b []impl.Item) {
		sum, ok := impl.UpdateCounts(a, b)
		if !ok {
			return
		}
		for _, key := range keysOf(a, b) {
			if impl.CountOf(sum, key) != counted(a, key)+counted(b, key) {
				t.Fatalf("UpdateCounts(%q, %q) = %q", write(a), write(b), write(sum))
			}
		}
		if back, ok := impl.SubtractCounts(sum, b); !ok || !alike(back, a) {
			t.Fatalf("SubtractCounts of UpdateCounts(%q, %q) = %q, %v", write(a), write(b), write(back), ok)
		}
	})
}

func TestP5CountsAreTakenAway(t *testing.T) {
	eachPair(samples(), func(a, b []impl.Item) {
		rest, ok := impl.SubtractCounts(a, b)
		if !ok {
			return
		}
		for _, key := range append(keysOf(a, b), "none") {
			if impl.CountOf(rest, key) != counted(a, key)-counted(b, key) {
				t.Fatalf("SubtractCounts(%q, %q) = %q", write(a), write(b), write(rest))
			}
		}
	})
	for _, list := range samples() {
		rest, ok := impl.SubtractCounts(list, list)
		if !ok || !slices.Equal(keysOf(rest), keysOf(list)) || !alike(rest, nil) {
			t.Errorf("SubtractCounts(%q) of itself = %q, %v", write(list), write(rest), ok)
		}
	}
}

func TestP6AddedCountsArePositive(t *testing.T) {
	eachPair(samples(), func(a, b []impl.Item) {
		sum, ok := impl.AddCounts(a, b)
		turned, also := impl.AddCounts(b, a)
		if ok != also || !alike(sum, turned) || !atLeast(sum, 1) {
			t.Fatalf("AddCounts(%q, %q) = %q, %v, the other way round %q, %v", write(a), write(b), write(sum), ok, write(turned), also)
		}
	})
	for _, list := range samples() {
		for _, nothing := range [][]impl.Item{nil, {}} {
			if sum, ok := impl.AddCounts(list, nothing); !ok || !slices.Equal(sum, impl.KeepCounts(list)) {
				t.Errorf("AddCounts(%q) with nothing = %q, %v", write(list), write(sum), ok)
			}
		}
	}
}

func TestP7AddingGoesInEitherOrder(t *testing.T) {
	lists := append(smallLists(0, 2), read("c:2 b:2 a:2 d:2 e:0"), read("a:5 b:5 c:5 d:5 e:5 f:5 g:5 h:5"), read("zz:4999 a:9"))
	add := func(a, b []impl.Item) ([]impl.Item, bool) { return impl.AddCounts(a, b) }
	eachPair(lists, func(a, b []impl.Item) {
		for _, c := range lists {
			left, ok1 := add(a, b)
			right, ok2 := add(b, c)
			if !ok1 || !ok2 {
				continue
			}
			left, ok1 = add(left, c)
			right, ok2 = add(a, right)
			if ok1 != ok2 || !alike(left, right) {
				t.Fatalf("AddCounts of %q, %q, %q = %q, %v and %q, %v", write(a), write(b), write(c), write(left), ok1, write(right), ok2)
			}
		}
	})
}

func TestP8WhatIsLeftIsPositive(t *testing.T) {
	eachPair(samples(), func(a, b []impl.Item) {
		if rest, _ := impl.LessCounts(a, b); !atLeast(rest, 1) {
			t.Fatalf("LessCounts(%q, %q) = %q", write(a), write(b), write(rest))
		}
	})
	eachPair(withoutNegative(samples()), func(a, b []impl.Item) {
		rest, ok := impl.LessCounts(a, b)
		done(t, "LessCounts", rest, ok)
		if both, ok := impl.AddCounts(rest, impl.MeetCounts(a, b)); !ok || !alike(both, a) {
			t.Fatalf("LessCounts and MeetCounts of %q and %q together = %q, %v", write(a), write(b), write(both), ok)
		}
	})
}

func TestP9SmallerCountsAreWithinBoth(t *testing.T) {
	lists := withoutNegative(samples())
	eachPair(lists, func(a, b []impl.Item) {
		meet := impl.MeetCounts(a, b)
		if !impl.WithinCounts(meet, a) || !impl.WithinCounts(meet, b) || !alike(meet, impl.MeetCounts(b, a)) {
			t.Fatalf("MeetCounts(%q, %q) = %q", write(a), write(b), write(meet))
		}
		for _, other := range lists {
			if impl.WithinCounts(other, a) && impl.WithinCounts(other, b) && !impl.WithinCounts(other, meet) {
				t.Fatalf("MeetCounts(%q, %q) = %q, and %q is within both", write(a), write(b), write(meet), write(other))
			}
		}
	})
}

func TestP10BothAreWithinTheGreaterCounts(t *testing.T) {
	eachPair(samples(), func(a, b []impl.Item) {
		join, ok := impl.JoinCounts(a, b)
		if ok && (!impl.WithinCounts(impl.KeepCounts(a), join) || !impl.WithinCounts(impl.KeepCounts(b), join)) {
			t.Fatalf("JoinCounts(%q, %q) = %q", write(a), write(b), write(join))
		}
	})
	eachPair(withoutNegative(samples()), func(a, b []impl.Item) {
		join, ok := impl.JoinCounts(a, b)
		sum, also := impl.AddCounts(a, b)
		if !ok || !also {
			return
		}
		if both, ok := impl.AddCounts(join, impl.MeetCounts(a, b)); !ok || !alike(both, sum) {
			t.Fatalf("JoinCounts and MeetCounts of %q and %q together = %q, %v", write(a), write(b), write(both), ok)
		}
	})
}

func TestP11SmallerAndGreaterCountsSpread(t *testing.T) {
	lists := append(smallLists(-1, 2), longLists()...)
	eachPair(lists, func(a, b []impl.Item) {
		join, ok := impl.JoinCounts(a, b)
		if !ok {
			return
		}
		for _, c := range lists {
			spread, ok := impl.JoinCounts(impl.MeetCounts(a, c), impl.MeetCounts(b, c))
			if !ok || !alike(impl.MeetCounts(join, c), spread) {
				t.Fatalf("%q, %q, %q: MeetCounts of JoinCounts = %q, JoinCounts of MeetCounts = %q, %v", write(a), write(b), write(c), write(impl.MeetCounts(join, c)), write(spread), ok)
			}
		}
	})
}

func TestP12PositiveAndNegativeCountsAreAll(t *testing.T) {
	for _, list := range samples() {
		keep := impl.KeepCounts(list)
		if all, ok := impl.SubtractCounts(keep, impl.TurnCounts(list)); !ok || !alike(all, list) {
			t.Errorf("KeepCounts without TurnCounts of %q = %q, %v", write(list), write(all), ok)
		}
		if again := impl.KeepCounts(keep); !slices.Equal(again, keep) {
			t.Errorf("KeepCounts of KeepCounts(%q) = %q", write(list), write(again))
		}
	}
}

func TestP13TurnedCountsAreThoseBelowZero(t *testing.T) {
	for _, list := range samples() {
		scaled, ok := impl.ScaleCounts(list, -1)
		done(t, "ScaleCounts", scaled, ok)
		if turned := impl.TurnCounts(list); !slices.Equal(turned, impl.KeepCounts(scaled)) {
			t.Errorf("TurnCounts(%q) = %q", write(list), write(turned))
		}
	}
}

func TestP14WithoutZerosCountsAreTheSame(t *testing.T) {
	for _, list := range samples() {
		dropped := impl.DropZero(list)
		if !impl.SameCounts(dropped, list) || slices.ContainsFunc(dropped, func(item impl.Item) bool { return item.N == 0 }) {
			t.Errorf("DropZero(%q) = %q", write(list), write(dropped))
		}
	}
}

func TestP15ScaledCountsHaveAScaledTotal(t *testing.T) {
	for _, list := range samples() {
		for _, n := range []int{-2, -1, 0, 1, 2} {
			scaled, ok := impl.ScaleCounts(list, n)
			done(t, "ScaleCounts", scaled, ok)
			if impl.TotalCount(scaled) != n*impl.TotalCount(list) {
				t.Errorf("ScaleCounts(%q, %d) = %q", write(list), n, write(scaled))
			}
		}
		twice, ok := impl.ScaleCounts(list, 2)
		sum, also := impl.UpdateCounts(list, list)
		if !ok || !also || !slices.Equal(twice, sum) {
			t.Errorf("%q times 2 = %q, %v, added to itself %q, %v", write(list), write(twice), ok, write(sum), also)
		}
	}
}

func TestP16TotalsAddUp(t *testing.T) {
	eachPair(samples(), func(a, b []impl.Item) {
		if sum, ok := impl.UpdateCounts(a, b); ok && impl.TotalCount(sum) != impl.TotalCount(a)+impl.TotalCount(b) {
			t.Fatalf("TotalCount of UpdateCounts(%q, %q) = %d", write(a), write(b), impl.TotalCount(sum))
		}
	})
}

func TestP17ElementsAreCountedBack(t *testing.T) {
	for _, list := range samples() {
		elements, ok := impl.Elements(list)
		if !ok {
			continue
		}
		if back, ok := impl.CountTexts(elements); !ok || !slices.Equal(back, impl.KeepCounts(list)) {
			t.Errorf("CountTexts of Elements(%q) = %q, %v", write(list), write(back), ok)
		}
		if keys := slices.Compact(slices.Clone(elements)); !slices.Equal(keys, keysOf(impl.KeepCounts(list))) {
			t.Errorf("Elements(%q) = %q", write(list), elements)
		}
	}
	if _, ok := impl.Elements(read("a:5 b:5 c:5 d:5 e:5 f:5 g:5 h:5")); !ok {
		t.Error("Elements of as many texts as are counted")
	}
}

func TestP18TheMostCommonOnesComeFirst(t *testing.T) {
	for _, list := range samples() {
		all := impl.MostCommon(list, -1)
		if len(all) != len(list) || !alike(all, list) {
			t.Errorf("MostCommon(%q, -1) = %q", write(list), write(all))
			continue
		}
		for i := 1; i < len(all); i++ {
			behind := slices.Index(list, all[i]) > slices.Index(list, all[i-1])
			if all[i].N > all[i-1].N || all[i].N == all[i-1].N && !behind {
				t.Errorf("MostCommon(%q, -1) = %q", write(list), write(all))
			}
		}
		for n := range len(all) + 1 {
			if some := impl.MostCommon(list, n); !slices.Equal(some, all[:n]) {
				t.Errorf("MostCommon(%q, %d) = %q", write(list), n, write(some))
			}
		}
	}
}

func TestP19ToBeWithinGoesOn(t *testing.T) {
	eachPair(samples(), func(a, b []impl.Item) {
		if (impl.WithinCounts(a, b) && impl.WithinCounts(b, a)) != alike(a, b) {
			t.Fatalf("WithinCounts(%q, %q) = %v, the other way round %v", write(a), write(b), impl.WithinCounts(a, b), impl.WithinCounts(b, a))
		}
		if atLeast(a, 0) && !impl.WithinCounts(impl.MeetCounts(a, b), a) {
			t.Fatalf("WithinCounts of MeetCounts(%q, %q) = false", write(a), write(b))
		}
	})
	for _, list := range samples() {
		if !impl.WithinCounts(list, list) {
			t.Errorf("WithinCounts(%q) of itself = false", write(list))
		}
	}
	lists := smallLists(-1, 1)
	eachPair(lists, func(a, b []impl.Item) {
		for _, c := range lists {
			if impl.WithinCounts(a, b) && impl.WithinCounts(b, c) && !impl.WithinCounts(a, c) {
				t.Fatalf("%q is within %q, and this within %q", write(a), write(b), write(c))
			}
		}
	})
}

func TestP20ZerosAndOrderMeanNothing(t *testing.T) {
	eachPair(samples(), func(a, b []impl.Item) {
		x, y := impl.DropZero(a), impl.DropZero(b)
		same := len(x) == len(y)
		for _, item := range x {
			same = same && slices.Contains(y, item)
		}
		if impl.SameCounts(a, b) != same {
			t.Fatalf("SameCounts(%q, %q) = %v", write(a), write(b), !same)
		}
	})
}

func TestP21ItemsAreReadBack(t *testing.T) {
	lists := append(samples(), read("abcd:9999 z:-9999 a:0 b:10 c:-10 d:1000 e:7 f:-1"), read("aaaa:-9999 aaab:-9999 aaac:-9999 aaad:-9999 aaae:-9999 aaaf:-9999 aaag:-9999 aaah:-9999"))
	for _, list := range lists {
		text := impl.ItemsText(list)
		if text != write(list) {
			t.Errorf("ItemsText(%v) = %q", list, text)
		}
		if back, ok := impl.ParseItems(text); !ok || !slices.Equal(back, list) {
			t.Errorf("ParseItems(%q) = %v, %v", text, back, ok)
		}
	}
}

func TestP22TextsOfItemsAreWrittenBack(t *testing.T) {
	for _, s := range []string{"", "a:0", "b:1 a:-1", "abcd:9999 z:-9999", "a:1 b:2 c:3 d:4 e:5 f:6 g:7 h:8"} {
		if list, ok := impl.ParseItems(s); !ok || impl.ItemsText(list) != s {
			t.Errorf("ItemsText of ParseItems(%q) = %q, %v", s, impl.ItemsText(list), ok)
		}
	}
	for _, s := range []string{
		" ", "a", "a:", ":", ":1", "a:1 ", " a:1", "a:1  b:2", "a:1\tb:2", "a:1,b:2", "a:1\n", "a 1", "a: 1", "a :1",
		"a:01", "a:-01", "a:00", "a:-0", "a:+1", "a:+0", "a:--1", "a:-", "a:1-", "a:1.0", "a:1e2", "a:0x1", "a:1_0", "a:1:2", "a::1",
		"A:1", "abcde:1", "é:1", "a1:1", "-:1", "a:1 a:1", "a:1 b:2 a:3", "a:10000", "a:-10000", "a:9223372036854775807", "a:99999999999999999999",
		"a:1 b:2 c:3 d:4 e:5 f:6 g:7 h:8 i:9", "a:1 b:2 c:3 d:4 e:5 f:6 g:7 h:8 ", "a:x", "a:1 b", "a:\xff", "a:1 b:", "a:١",
	} {
		if list, ok := impl.ParseItems(s); ok || len(list) != 0 {
			t.Errorf("ParseItems(%q) = %v, %v", s, list, ok)
		}
	}
}
