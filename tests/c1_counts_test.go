package tests

import (
	"math"
	"slices"
	"strings"
	"testing"

	"loop.example/tallychains/impl"
)

type pairCase struct{ a, b, want string }

// tryPairs checks a function of two lists on texts of items.
func tryPairs(t *testing.T, name string, f func(a, b []impl.Item) ([]impl.Item, bool), cases []pairCase) {
	t.Helper()
	for _, c := range cases {
		out, ok := f(read(c.a), read(c.b))
		expect(t, out, ok, c.want, "%s(%q, %q)", name, c.a, c.b)
	}
}

func TestValidItems(t *testing.T) {
	for _, s := range []string{"", "a:0", "z:1", "abcd:9999", "azaz:-9999", "b:1 a:1", "a:1 b:1 c:1 d:1 e:1 f:1 g:1 h:1", "a:1 aa:1 aaa:1 aaaa:1"} {
		if !impl.ValidItems(read(s)) {
			t.Errorf("ValidItems(%q) = false", s)
		}
	}
	if !impl.ValidItems([]impl.Item{}) {
		t.Error("ValidItems of an empty slice = false")
	}
	for _, list := range invalidLists() {
		if impl.ValidItems(list) {
			t.Errorf("ValidItems(%v) = true", list)
		}
	}
}

func TestCountOf(t *testing.T) {
	list := read("a:3 b:-1 c:0 abcd:9999 z:-9999")
	for key, want := range map[string]int{"a": 3, "b": -1, "c": 0, "abcd": 9999, "z": -9999, "d": 0, "": 0, "abc": 0, "A": 0, "abcde": 0} {
		if n := impl.CountOf(list, key); n != want {
			t.Errorf("CountOf(%q) = %d, want %d", key, n, want)
		}
	}
	if n := impl.CountOf(nil, "a"); n != 0 {
		t.Errorf("CountOf nothing = %d", n)
	}
}

func TestCountTexts(t *testing.T) {
	for _, c := range []struct{ texts, want string }{
		{"", ""}, {"a", "a:1"}, {"b a b ab", "b:2 a:1 ab:1"}, {"z z z", "z:3"},
		{"h g f e d c b a h", "h:2 g:1 f:1 e:1 d:1 c:1 b:1 a:1"},
		{strings.Repeat("a ", 40), "a:40"}, {strings.Repeat("b a ", 20), "b:20 a:20"},
		{strings.Repeat("a ", 41), failed}, {"a b c d e f g h i", failed},
		{"a A", failed}, {"a abcde", failed}, {"a1", failed}, {"a b:1", failed}, {"é", failed},
	} {
		out, ok := impl.CountTexts(strings.Fields(c.texts))
		expect(t, out, ok, c.want, "CountTexts(%q)", c.texts)
	}
	if out, ok := impl.CountTexts([]string{"a", "", "a"}); ok || len(out) != 0 {
		t.Errorf("CountTexts with an empty text = %q, %v", write(out), ok)
	}
}

func TestUpdateCounts(t *testing.T) {
	tryPairs(t, "UpdateCounts", impl.UpdateCounts, []pairCase{
		{"", "", ""}, {"b:1 a:-1", "", "b:1 a:-1"}, {"", "b:1 a:0", "b:1 a:0"},
		{"a:3 b:-1 c:0 d:2", "d:1 a:1 e:4 b:5 f:-2", "a:4 b:4 c:0 d:3 e:4 f:-2"},
		{"a:1", "a:-1", "a:0"}, {"a:1 b:1", "b:-3 a:-1", "a:0 b:-2"},
		{"a:9998", "a:1", "a:9999"}, {"a:9999", "a:1", failed}, {"a:-9998", "a:-1", "a:-9999"}, {"a:-9999", "a:-1", failed},
		{"a:9999", "a:-9999", "a:0"},
		{"a:1 b:1 c:1 d:1", "e:1 f:1 g:1 h:1", "a:1 b:1 c:1 d:1 e:1 f:1 g:1 h:1"},
		{"a:1 b:1 c:1 d:1", "e:1 f:1 g:1 h:1 i:0", failed},
		{"a:1 b:1 c:1 d:1 e:1 f:1 g:1 h:1", "h:1 a:-1", "a:0 b:1 c:1 d:1 e:1 f:1 g:1 h:2"},
	})
}

func TestSubtractCounts(t *testing.T) {
	tryPairs(t, "SubtractCounts", impl.SubtractCounts, []pairCase{
		{"", "", ""}, {"b:1 a:-1", "", "b:1 a:-1"}, {"", "b:1 a:-2 c:0", "b:-1 a:2 c:0"},
		{"a:3 b:-1 c:0 d:2", "d:1 a:1 e:4 b:5 f:-2", "a:2 b:-6 c:0 d:1 e:-4 f:2"},
		{"a:-9998", "a:1", "a:-9999"}, {"a:-9999", "a:1", failed}, {"a:9998", "a:-1", "a:9999"}, {"a:9999", "a:-1", failed},
		{"", "a:-9999", "a:9999"}, {"a:9999", "a:9999", "a:0"},
		{"a:1 b:1 c:1 d:1", "e:1 f:1 g:1 h:1", "a:1 b:1 c:1 d:1 e:-1 f:-1 g:-1 h:-1"},
		{"a:1 b:1 c:1 d:1", "e:1 f:1 g:1 h:1 i:0", failed},
	})
}

func TestAddCounts(t *testing.T) {
	tryPairs(t, "AddCounts", impl.AddCounts, []pairCase{
		{"", "", ""}, {"b:1 a:-1 c:0", "", "b:1"}, {"", "b:1 a:0 c:2", "b:1 c:2"},
		{"a:3 b:-1 c:0 d:2", "d:1 a:1 e:4 b:5 f:-2", "a:4 b:4 d:3 e:4"},
		{"a:1", "a:-1", ""}, {"a:-1 b:1", "a:2", "a:1 b:1"},
		{"a:9998", "a:1", "a:9999"}, {"a:9999", "a:1", failed}, {"a:-9999 b:1", "a:-9999", "b:1"},
		{"a:0 b:0 c:0 d:0 e:0", "f:0 g:0 h:0 i:0 j:1", "j:1"},
		{"a:1 b:1 c:1 d:1 e:1", "f:1 g:1 h:1 i:-1", "a:1 b:1 c:1 d:1 e:1 f:1 g:1 h:1"},
		{"a:1 b:1 c:1 d:1 e:1", "f:1 g:1 h:1 i:1", failed},
		{"a:1 b:1 c:1 d:1 e:1", "e:-1 f:1 g:1 h:1 i:1", "a:1 b:1 c:1 d:1 f:1 g:1 h:1 i:1"},
	})
}

func TestLessCounts(t *testing.T) {
	tryPairs(t, "LessCounts", impl.LessCounts, []pairCase{
		{"", "", ""}, {"b:1 a:-1 c:0", "", "b:1"}, {"", "b:1 a:-2 c:0", "a:2"},
		{"a:3 b:-1 c:0 d:2", "d:1 a:1 e:4 b:5 f:-2", "a:2 d:1 f:2"},
		{"a:1", "a:1", ""}, {"a:-1", "a:-3", "a:2"},
		{"a:9998", "a:-1", "a:9999"}, {"a:9999", "a:-1", failed}, {"a:-9999 b:1", "a:9999", "b:1"},
		{"a:1 b:1 c:1 d:1 e:1", "f:-1 g:-1 h:-1 i:1", "a:1 b:1 c:1 d:1 e:1 f:1 g:1 h:1"},
		{"a:1 b:1 c:1 d:1 e:1", "f:-1 g:-1 h:-1 i:-1", failed},
	})
}

func TestMeetCounts(t *testing.T) {
	meet := func(a, b []impl.Item) ([]impl.Item, bool) { return impl.MeetCounts(a, b), true }
	tryPairs(t, "MeetCounts", meet, []pairCase{
		{"", "", ""}, {"a:1", "", ""}, {"", "a:1", ""}, {"a:-1", "", ""}, {"", "a:-1", ""},
		{"a:3 b:-1 c:0 d:2", "d:1 a:1 e:4 b:5 f:-2", "a:1 d:1"}, {"a:2 b:3", "b:4 a:5", "a:2 b:3"},
		{"a:-2", "a:-1", ""}, {"a:2", "a:-1", ""}, {"a:-1", "a:2", ""}, {"a:0", "a:2", ""}, {"a:2", "a:0", ""},
		{"a:9999 b:-9999 c:9999", "a:9999 b:9999 c:-9999", "a:9999"},
		{"a:1 b:1 c:1 d:1 e:1 f:1 g:1 h:1", "i:1 j:-1 h:2 a:3", "a:1 h:1"},
	})
}

func TestJoinCounts(t *testing.T) {
	tryPairs(t, "JoinCounts", impl.JoinCounts, []pairCase{
		{"", "", ""}, {"b:1 a:2", "", "b:1 a:2"}, {"", "b:1 a:2", "b:1 a:2"}, {"a:-1 b:0", "", ""}, {"", "a:-1 b:0", ""},
		{"a:3 b:-1 c:0 d:2", "d:1 a:1 e:4 b:5 f:-2", "a:3 b:5 d:2 e:4"}, {"a:-1", "a:1", "a:1"}, {"a:1", "a:-1", "a:1"}, {"a:-2", "a:-1", ""},
		{"a:9999 b:-9999", "a:9999 b:9999", "a:9999 b:9999"}, {"a:9999 b:9999", "a:-9999 b:0", "a:9999 b:9999"},
		{"a:1 b:1 c:1 d:1 e:1", "f:1 g:1 h:1", "a:1 b:1 c:1 d:1 e:1 f:1 g:1 h:1"},
		{"a:1 b:1 c:1 d:1 e:1", "i:1 f:1 g:1 h:1", failed},
		{"a:1 b:1 c:1 d:1 e:1", "f:1 g:1 h:1 i:0", "a:1 b:1 c:1 d:1 e:1 f:1 g:1 h:1"},
		{"a:0 b:-1 c:1 d:1 e:1", "i:1 f:1 g:1 h:1", "c:1 d:1 e:1 i:1 f:1 g:1 h:1"},
	})
}

func TestCountsKept(t *testing.T) {
	for _, c := range []struct{ list, keep, turn, drop string }{
		{"", "", "", ""},
		{"d:1 a:3 b:-1 c:0 e:-2", "d:1 a:3", "b:1 e:2", "d:1 a:3 b:-1 e:-2"},
		{"a:0", "", "", ""}, {"a:9999 b:-9999", "a:9999", "b:9999", "a:9999 b:-9999"},
		{"h:-1 g:1 f:-1 e:1 d:-1 c:1 b:-1 a:1", "g:1 e:1 c:1 a:1", "h:1 f:1 d:1 b:1", "h:-1 g:1 f:-1 e:1 d:-1 c:1 b:-1 a:1"},
	} {
		list := read(c.list)
		if out := impl.KeepCounts(list); write(out) != c.keep {
			t.Errorf("KeepCounts(%q) = %q", c.list, write(out))
		}
		if out := impl.TurnCounts(list); write(out) != c.turn {
			t.Errorf("TurnCounts(%q) = %q", c.list, write(out))
		}
		if out := impl.DropZero(list); write(out) != c.drop {
			t.Errorf("DropZero(%q) = %q", c.list, write(out))
		}
	}
}

func TestScaleCounts(t *testing.T) {
	for _, c := range []struct {
		list string
		n    int
		want string
	}{
		{"", 5, ""}, {"a:3 b:-1 c:0 d:2", -2, "a:-6 b:2 c:0 d:-4"}, {"b:2 a:-1", 0, "b:0 a:0"}, {"b:2 a:-1", 1, "b:2 a:-1"},
		{"a:1 b:-1", 9999, "a:9999 b:-9999"}, {"a:1 b:-1", -9999, "a:-9999 b:9999"}, {"a:9999", -1, "a:-9999"}, {"a:9999", 9999, failed},
		{"a:4999", 2, "a:9998"}, {"a:5000", 2, failed}, {"a:5000", -2, failed}, {"a:0 b:-5000", 2, failed},
		{"a:0", 10000, failed}, {"a:0", -10000, failed}, {"", 10000, failed}, {"", -10000, failed},
		{"a:0", math.MaxInt, failed}, {"a:2", math.MinInt, failed}, {"a:2", math.MinInt + 1, failed},
	} {
		out, ok := impl.ScaleCounts(read(c.list), c.n)
		expect(t, out, ok, c.want, "ScaleCounts(%q, %d)", c.list, c.n)
	}
}

func TestTotalCount(t *testing.T) {
	for s, want := range map[string]int{
		"": 0, "a:3 b:-1 c:0 d:2": 4, "a:-3 b:1": -2,
		"a:9999 b:9999 c:9999 d:9999 e:9999 f:9999 g:9999 h:9999": 79992, "a:-9999 b:-9999": -19998,
	} {
		if n := impl.TotalCount(read(s)); n != want {
			t.Errorf("TotalCount(%q) = %d, want %d", s, n, want)
		}
	}
}

func TestElements(t *testing.T) {
	for _, c := range []struct{ list, want string }{
		{"", ""}, {"b:2 a:1", "b b a"}, {"a:3 b:-1 c:0 d:2", "a a a d d"}, {"a:0 b:-9999", ""},
		{"a:40 b:0 c:-1", strings.Repeat("a ", 40)}, {"c:-1 b:-39 a:40", strings.Repeat("a ", 40)}, {"b:20 a:20", strings.Repeat("b ", 20) + strings.Repeat("a ", 20)},
		{"a:41", failed}, {"a:40 b:1", failed}, {"a:41 b:-1", failed}, {"b:-1 a:41", failed}, {"a:20 b:-5 c:21", failed}, {"a:9999", failed},
	} {
		out, ok := impl.Elements(read(c.list))
		if c.want == failed && (ok || len(out) != 0) || c.want != failed && (!ok || !slices.Equal(out, strings.Fields(c.want))) {
			t.Errorf("Elements(%q) = %q, %v", c.list, out, ok)
		}
	}
}

func TestMostCommon(t *testing.T) {
	for _, c := range []struct {
		list string
		n    int
		want string
	}{
		{"", -1, ""}, {"", 0, ""}, {"", 1, ""},
		{"d:1 a:1 e:4 b:5 f:-2", 3, "b:5 e:4 d:1"}, {"d:1 a:1 e:4 b:5 f:-2", 4, "b:5 e:4 d:1 a:1"},
		{"d:1 a:1 e:4 b:5 f:-2", 5, "b:5 e:4 d:1 a:1 f:-2"}, {"d:1 a:1 e:4 b:5 f:-2", 6, "b:5 e:4 d:1 a:1 f:-2"},
		{"d:1 a:1 e:4 b:5 f:-2", math.MaxInt, "b:5 e:4 d:1 a:1 f:-2"}, {"d:1 a:1 e:4 b:5 f:-2", -1, "b:5 e:4 d:1 a:1 f:-2"},
		{"d:1 a:1 e:4 b:5 f:-2", math.MinInt, "b:5 e:4 d:1 a:1 f:-2"}, {"d:1 a:1 e:4 b:5 f:-2", 0, ""}, {"a:1 b:2", 1, "b:2"},
		{"h:0 g:0 f:0 e:0 d:0 c:0 b:0 a:0", -1, "h:0 g:0 f:0 e:0 d:0 c:0 b:0 a:0"}, {"a:-9999 b:9999 c:0", -1, "b:9999 c:0 a:-9999"},
		{"h:1 a:2 g:1 b:2 f:1 c:2 e:1 d:2", -1, "a:2 b:2 c:2 d:2 h:1 g:1 f:1 e:1"},
	} {
		if out := impl.MostCommon(read(c.list), c.n); write(out) != c.want {
			t.Errorf("MostCommon(%q, %d) = %q, want %q", c.list, c.n, write(out), c.want)
		}
	}
}

func TestComparedCounts(t *testing.T) {
	for _, c := range []struct {
		a, b         string
		within, same bool
	}{
		{"", "", true, true}, {"a:1", "a:1", true, true}, {"a:1", "a:2 b:1", true, false}, {"a:2", "a:1", false, false},
		{"a:1 b:0", "a:1", true, true}, {"a:1", "a:1 b:0", true, true}, {"a:1", "a:1 b:-1", false, false}, {"a:1 b:-1", "a:1", true, false},
		{"", "a:-1", false, false}, {"a:-1", "", true, false}, {"a:1 b:2", "b:2 a:1", true, true}, {"a:0 b:0", "c:0", true, true},
		{"a:-3 b:1", "b:1 a:-2", true, false}, {"a:1 b:9", "a:9 b:1", false, false}, {"a:-9999", "a:9999", true, false}, {"a:9999", "a:-9999", false, false},
		{"a:1 b:1 c:1 d:1 e:1", "f:1 g:1 h:1 i:1 j:1", false, false}, {"a:-1 b:-1 c:-1 d:-1 e:-1", "f:1 g:1 h:1 i:1 j:1", true, false},
	} {
		if impl.WithinCounts(read(c.a), read(c.b)) != c.within {
			t.Errorf("WithinCounts(%q, %q) = %v", c.a, c.b, !c.within)
		}
		if impl.SameCounts(read(c.a), read(c.b)) != c.same {
			t.Errorf("SameCounts(%q, %q) = %v", c.a, c.b, !c.same)
		}
	}
}

// TestKeyByKey holds each function of two lists against what the document says of one key.
func TestKeyByKey(t *testing.T) {
	every := func(int) bool { return true }
	positive := func(n int) bool { return n > 0 }
	meet := func(a, b []impl.Item) ([]impl.Item, bool) { return impl.MeetCounts(a, b), true }
	for _, f := range []struct {
		name string
		call func(a, b []impl.Item) ([]impl.Item, bool)
		pick func(x, y int) int
		keep func(n int) bool
	}{
		{"UpdateCounts", impl.UpdateCounts, func(x, y int) int { return x + y }, every},
		{"SubtractCounts", impl.SubtractCounts, func(x, y int) int { return x - y }, every},
		{"AddCounts", impl.AddCounts, func(x, y int) int { return x + y }, positive},
		{"LessCounts", impl.LessCounts, func(x, y int) int { return x - y }, positive},
		{"MeetCounts", meet, func(x, y int) int { return min(x, y) }, positive},
		{"JoinCounts", impl.JoinCounts, func(x, y int) int { return max(x, y) }, positive},
	} {
		eachPair(samples(), func(a, b []impl.Item) {
			var want []impl.Item
			fits := true
			for _, key := range keysOf(a, b) {
				if n := f.pick(counted(a, key), counted(b, key)); f.keep(n) {
					want = append(want, impl.Item{Key: key, N: n})
					fits = fits && -impl.MaxNumber <= n && n <= impl.MaxNumber
				}
			}
			if !fits || len(want) > impl.MaxItems {
				want, fits = nil, false
			}
			if out, ok := f.call(a, b); ok != fits || !slices.Equal(out, want) {
				t.Fatalf("%s(%q, %q) = %q, %v, want %q, %v", f.name, write(a), write(b), write(out), ok, write(want), fits)
			}
		})
	}
}
