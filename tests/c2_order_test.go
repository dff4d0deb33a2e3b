package tests

import (
	"math"
	"slices"
	"strings"
	"testing"

	"loop.example/tallychains/impl"
)

const (
	fullList  = "h:1 g:2 f:3 e:4 d:-4 c:-3 b:-2 a:-1"
	limitList = "abcd:9999 z:-9999 a:0"
)

func TestGetItem(t *testing.T) {
	for _, c := range []struct {
		list, key string
		n, place  int
	}{
		{"c:1 a:2 b:3", "c", 1, 0}, {"c:1 a:2 b:3", "a", 2, 1}, {"c:1 a:2 b:3", "b", 3, 2}, {"c:1 a:2 b:3", "d", 0, -1},
		{limitList, "abcd", 9999, 0}, {limitList, "z", -9999, 1}, {limitList, "a", 0, 2}, {limitList, "abc", 0, -1},
		{limitList, "abcde", 0, -1}, {limitList, "", 0, -1}, {limitList, "A", 0, -1}, {limitList, "a:0", 0, -1},
		{fullList, "h", 1, 0}, {fullList, "a", -1, 7}, {fullList, "i", 0, -1}, {"", "a", 0, -1}, {"", "", 0, -1},
	} {
		if n, ok := impl.GetItem(read(c.list), c.key); n != c.n || ok != (c.place >= 0) {
			t.Errorf("GetItem(%q, %q) = %d, %v", c.list, c.key, n, ok)
		}
		if place := impl.PlaceOf(read(c.list), c.key); place != c.place {
			t.Errorf("PlaceOf(%q, %q) = %d, want %d", c.list, c.key, place, c.place)
		}
	}
}

func TestPutItem(t *testing.T) {
	for _, c := range []struct {
		list, key string
		n         int
		want      string
	}{
		{"", "a", 1, "a:1"}, {"c:1 a:2 b:3", "c", 9, "c:9 a:2 b:3"}, {"c:1 a:2 b:3", "a", 9, "c:1 a:9 b:3"}, {"c:1 a:2 b:3", "b", 9, "c:1 a:2 b:9"},
		{"c:1 a:2 b:3", "a", 2, "c:1 a:2 b:3"}, {"c:1 a:2 b:3", "d", 0, "c:1 a:2 b:3 d:0"}, {"c:1", "aaaa", -5, "c:1 aaaa:-5"},
		{"a:1", "a", 9999, "a:9999"}, {"a:1", "a", -9999, "a:-9999"}, {"a:1", "b", 9999, "a:1 b:9999"}, {"a:1", "b", -9999, "a:1 b:-9999"},
		{"a:1", "a", 10000, failed}, {"a:1", "a", -10000, failed}, {"a:1", "b", 10000, failed}, {"a:1", "b", -10000, failed},
		{"a:1", "a", math.MaxInt, failed}, {"a:1", "b", math.MinInt, failed},
		{"a:1", "", 1, failed}, {"a:1", "abcde", 1, failed}, {"a:1", "A", 1, failed}, {"a:1", "a1", 1, failed}, {"a:1", " a", 1, failed}, {"", "é", 1, failed},
		{"b:1 c:1 d:1 e:1 f:1 g:1 h:1", "a", 1, "b:1 c:1 d:1 e:1 f:1 g:1 h:1 a:1"},
		{fullList, "i", 1, failed}, {fullList, "a", 5, "h:1 g:2 f:3 e:4 d:-4 c:-3 b:-2 a:5"}, {fullList, "h", 5, "h:5 g:2 f:3 e:4 d:-4 c:-3 b:-2 a:-1"},
	} {
		out, ok := impl.PutItem(read(c.list), c.key, c.n)
		expect(t, out, ok, c.want, "PutItem(%q, %q, %d)", c.list, c.key, c.n)
	}
}

func TestDropItem(t *testing.T) {
	for _, c := range []struct{ list, key, want string }{
		{"c:1 a:2 b:3", "c", "a:2 b:3"}, {"c:1 a:2 b:3", "a", "c:1 b:3"}, {"c:1 a:2 b:3", "b", "c:1 a:2"}, {"a:0", "a", ""},
		{"c:1 a:2 b:3", "d", failed}, {"c:1 a:2 b:3", "", failed}, {"c:1 a:2 b:3", "abcde", failed}, {"", "a", failed}, {"", "", failed},
		{fullList, "e", "h:1 g:2 f:3 d:-4 c:-3 b:-2 a:-1"},
	} {
		out, ok := impl.DropItem(read(c.list), c.key)
		expect(t, out, ok, c.want, "DropItem(%q, %q)", c.list, c.key)
	}
}

func TestMoveItem(t *testing.T) {
	for _, c := range []struct{ list, key, toFirst, toLast string }{
		{"c:1 a:2 b:3", "c", "c:1 a:2 b:3", "a:2 b:3 c:1"}, {"c:1 a:2 b:3", "a", "a:2 c:1 b:3", "c:1 b:3 a:2"}, {"c:1 a:2 b:3", "b", "b:3 c:1 a:2", "c:1 a:2 b:3"},
		{"a:1", "a", "a:1", "a:1"}, {"b:1 a:0", "b", "b:1 a:0", "a:0 b:1"}, {"b:1 a:0", "a", "a:0 b:1", "b:1 a:0"},
		{"b:1 a:0", "c", failed, failed}, {"b:1 a:0", "", failed, failed}, {"b:1 a:0", "A", failed, failed}, {"", "a", failed, failed},
		{fullList, "e", "e:4 h:1 g:2 f:3 d:-4 c:-3 b:-2 a:-1", "h:1 g:2 f:3 d:-4 c:-3 b:-2 a:-1 e:4"},
	} {
		out, ok := impl.MoveItem(read(c.list), c.key, false)
		expect(t, out, ok, c.toFirst, "MoveItem(%q, %q, false)", c.list, c.key)
		out, ok = impl.MoveItem(read(c.list), c.key, true)
		expect(t, out, ok, c.toLast, "MoveItem(%q, %q, true)", c.list, c.key)
	}
}

func TestPopItem(t *testing.T) {
	for _, c := range []struct {
		list, want string
		last       bool
		item       impl.Item
	}{
		{"c:1 a:2 b:3", "c:1 a:2", true, impl.Item{Key: "b", N: 3}}, {"c:1 a:2 b:3", "a:2 b:3", false, impl.Item{Key: "c", N: 1}},
		{"a:0", "", true, impl.Item{Key: "a"}}, {"a:0", "", false, impl.Item{Key: "a"}},
		{"", failed, true, impl.Item{}}, {"", failed, false, impl.Item{}},
		{fullList, "h:1 g:2 f:3 e:4 d:-4 c:-3 b:-2", true, impl.Item{Key: "a", N: -1}}, {fullList, "g:2 f:3 e:4 d:-4 c:-3 b:-2 a:-1", false, impl.Item{Key: "h", N: 1}},
	} {
		out, item, ok := impl.PopItem(read(c.list), c.last)
		expect(t, out, ok, c.want, "PopItem(%q, %v)", c.list, c.last)
		if item != c.item {
			t.Errorf("PopItem(%q, %v) gives the item %v, want %v", c.list, c.last, item, c.item)
		}
	}
}

func TestComparedItems(t *testing.T) {
	for _, c := range []struct {
		a, b        string
		order, same bool
	}{
		{"", "", true, true}, {"a:1", "a:1", true, true}, {"a:1", "", false, false}, {"a:1", "a:2", false, false}, {"a:1", "b:1", false, false},
		{"a:1 b:2", "b:2 a:1", false, true}, {"a:1 b:2", "a:2 b:1", false, false}, {"a:1 b:0", "a:1", false, false}, {"a:0", "", false, false},
		{"a:1 b:2 c:3", "c:3 a:1 b:2", false, true}, {"a:1 b:2 c:3", "a:1 b:2", false, false}, {"ab:1 a:1", "a:1 ab:1", false, true},
		{fullList, fullList, true, true}, {fullList, "a:-1 b:-2 c:-3 d:-4 e:4 f:3 g:2 h:1", false, true}, {fullList, "a:-1 b:-2 c:-3 d:-4 e:4 f:3 g:2 h:0", false, false},
	} {
		if impl.SameOrder(read(c.a), read(c.b)) != c.order || impl.SameOrder(read(c.b), read(c.a)) != c.order {
			t.Errorf("SameOrder of %q and %q is not %v", c.a, c.b, c.order)
		}
		if impl.SameItems(read(c.a), read(c.b)) != c.same || impl.SameItems(read(c.b), read(c.a)) != c.same {
			t.Errorf("SameItems of %q and %q is not %v", c.a, c.b, c.same)
		}
	}
	if !impl.SameOrder(nil, []impl.Item{}) || !impl.SameItems([]impl.Item{}, nil) {
		t.Error("a nil slice and an empty one are not the same items")
	}
}

func TestOverItems(t *testing.T) {
	tryPairs(t, "OverItems", impl.OverItems, []pairCase{
		{"", "", ""}, {"b:1 a:0", "", "b:1 a:0"}, {"", "b:1 a:0", "b:1 a:0"},
		{"c:1 a:2 b:3", "b:7 d:8 c:9", "c:9 a:2 b:7 d:8"}, {"a:1 b:2", "b:2 a:1", "a:1 b:2"}, {"a:9999", "a:-9999", "a:-9999"}, {"a:5", "a:0", "a:0"},
		{"a:1 b:1 c:1 d:1", "h:1 g:1 f:1 e:1", "a:1 b:1 c:1 d:1 h:1 g:1 f:1 e:1"}, {"a:1 b:1 c:1 d:1", "h:1 g:1 f:1 e:1 i:0", failed},
		{fullList, "a:8 h:7", "h:7 g:2 f:3 e:4 d:-4 c:-3 b:-2 a:8"}, {fullList, "i:0", failed}, {"i:0", fullList, failed},
		{fullList, "a:1 b:2 c:3 d:4 e:5 f:6 g:7 h:8", "h:8 g:7 f:6 e:5 d:4 c:3 b:2 a:1"},
	})
}

func TestDefaultItem(t *testing.T) {
	for _, c := range []struct {
		list, key string
		n         int
		want      string
		known     int
	}{
		{"c:1 a:2", "a", 5, "c:1 a:2", 2}, {"c:1 a:2", "z", 5, "c:1 a:2 z:5", 5}, {"", "z", 0, "z:0", 0}, {"a:0", "a", 5, "a:0", 0},
		{"c:1 a:2", "z", 9999, "c:1 a:2 z:9999", 9999}, {"c:1 a:2", "z", -9999, "c:1 a:2 z:-9999", -9999},
		{"c:1 a:2", "z", 10000, failed, 0}, {"c:1 a:2", "z", -10000, failed, 0}, {"c:1 a:2", "c", 10000, "c:1 a:2", 1}, {"c:1 a:2", "c", math.MinInt, "c:1 a:2", 1},
		{"c:1 a:2", "", 5, failed, 0}, {"c:1 a:2", "abcde", 5, failed, 0}, {"c:1 a:2", "A", 5, failed, 0},
		{fullList, "i", 5, failed, 0}, {fullList, "a", 5, fullList, -1}, {"a:1 b:1 c:1 d:1 e:1 f:1 g:1", "h", 5, "a:1 b:1 c:1 d:1 e:1 f:1 g:1 h:5", 5},
	} {
		out, n, ok := impl.DefaultItem(read(c.list), c.key, c.n)
		expect(t, out, ok, c.want, "DefaultItem(%q, %q, %d)", c.list, c.key, c.n)
		if n != c.known {
			t.Errorf("DefaultItem(%q, %q, %d) gives the number %d, want %d", c.list, c.key, c.n, n, c.known)
		}
	}
}

func TestRenameItem(t *testing.T) {
	for _, c := range []struct{ list, key, to, want string }{
		{"c:1 a:2 b:3", "c", "z", "z:1 a:2 b:3"}, {"c:1 a:2 b:3", "a", "abcd", "c:1 abcd:2 b:3"}, {"c:1 a:2 b:3", "b", "bb", "c:1 a:2 bb:3"}, {"a:0", "a", "b", "b:0"},
		{"c:1 a:2 b:3", "a", "a", failed}, {"c:1 a:2 b:3", "a", "b", failed}, {"c:1 a:2 b:3", "a", "c", failed}, {"a:1", "a", "a", failed},
		{"c:1 a:2 b:3", "d", "e", failed}, {"c:1 a:2 b:3", "d", "a", failed}, {"c:1 a:2 b:3", "d", "d", failed}, {"", "a", "b", failed}, {"", "", "", failed},
		{"c:1 a:2 b:3", "a", "", failed}, {"c:1 a:2 b:3", "a", "abcde", failed}, {"c:1 a:2 b:3", "a", "A", failed}, {"c:1 a:2 b:3", "a", "a1", failed}, {"c:1 a:2 b:3", "", "d", failed},
		{fullList, "a", "i", "h:1 g:2 f:3 e:4 d:-4 c:-3 b:-2 i:-1"}, {fullList, "h", "a", failed},
	} {
		out, ok := impl.RenameItem(read(c.list), c.key, c.to)
		expect(t, out, ok, c.want, "RenameItem(%q, %q, %q)", c.list, c.key, c.to)
	}
}

func TestTurnedAndSorted(t *testing.T) {
	for _, c := range []struct{ list, turned, sorted string }{
		{"", "", ""}, {"a:1", "a:1", "a:1"}, {"c:1 a:2 b:3", "b:3 a:2 c:1", "a:2 b:3 c:1"}, {"b:1 a:2", "a:2 b:1", "a:2 b:1"},
		{"b:1 ab:2 aaaa:3 a:4 aa:5", "aa:5 a:4 aaaa:3 ab:2 b:1", "a:4 aa:5 aaaa:3 ab:2 b:1"}, {"z:-9999 azzz:9999", "azzz:9999 z:-9999", "azzz:9999 z:-9999"},
		{fullList, "a:-1 b:-2 c:-3 d:-4 e:4 f:3 g:2 h:1", "a:-1 b:-2 c:-3 d:-4 e:4 f:3 g:2 h:1"},
	} {
		expect(t, impl.TurnItems(read(c.list)), true, c.turned, "TurnItems(%q)", c.list)
		expect(t, impl.SortKeys(read(c.list)), true, c.sorted, "SortKeys(%q)", c.list)
	}
}

func TestInKeyOrder(t *testing.T) {
	for _, c := range []struct{ list, keys, want string }{
		{"", "", ""}, {"", "a b", ""}, {"c:1 a:2 b:3", "", "c:1 a:2 b:3"}, {"c:1 a:2 b:3", "b z b a", "b:3 a:2 c:1"},
		{"c:1 a:2 b:3", "b c b", "b:3 c:1 a:2"}, {"c:1 a:2 b:3", "b b b", "b:3 c:1 a:2"}, {"c:1 a:2 b:3", "c a b", "c:1 a:2 b:3"}, {"c:1 a:2 b:3", "b a c", "b:3 a:2 c:1"},
		{"c:1 a:2 b:3", "A abcde 1 :", "c:1 a:2 b:3"}, {"c:1 a:2 b:3", "A b abcde", "b:3 c:1 a:2"},
		{"c:1 a:2 b:3", strings.Repeat("z ", 100) + "b", "b:3 c:1 a:2"}, {fullList, "a c e g", "a:-1 c:-3 e:4 g:2 h:1 f:3 d:-4 b:-2"},
	} {
		expect(t, impl.InKeyOrder(read(c.list), strings.Fields(c.keys)), true, c.want, "InKeyOrder(%q, %q)", c.list, c.keys)
	}
	expect(t, impl.InKeyOrder(read("c:1 a:2"), []string{"", "a"}), true, "a:2 c:1", "InKeyOrder with an empty text")
}

// orderPairs and orderCalls are the functions of the chapter that give items, for the checks that all such functions share.
func orderPairs() map[string]pairCall {
	return map[string]pairCall{"OverItems": impl.OverItems}
}

func orderCalls() map[string]listCall {
	calls := map[string]listCall{
		"TurnItems":        func(list []impl.Item) ([]impl.Item, bool) { return impl.TurnItems(list), false },
		"SortKeys":         func(list []impl.Item) ([]impl.Item, bool) { return impl.SortKeys(list), false },
		"InKeyOrder":       func(list []impl.Item) ([]impl.Item, bool) { return impl.InKeyOrder(list, []string{"c", "a"}), false },
		"InKeyOrder of no": func(list []impl.Item) ([]impl.Item, bool) { return impl.InKeyOrder(list, nil), false },
	}
	for _, key := range []string{"a", "d", "c", "new"} {
		calls["PutItem "+key] = func(list []impl.Item) ([]impl.Item, bool) { return impl.PutItem(list, key, 7) }
		calls["DropItem "+key] = func(list []impl.Item) ([]impl.Item, bool) { return impl.DropItem(list, key) }
		calls["MoveItem first "+key] = func(list []impl.Item) ([]impl.Item, bool) { return impl.MoveItem(list, key, false) }
		calls["MoveItem last "+key] = func(list []impl.Item) ([]impl.Item, bool) { return impl.MoveItem(list, key, true) }
		calls["RenameItem "+key] = func(list []impl.Item) ([]impl.Item, bool) { return impl.RenameItem(list, key, "to") }
		calls["DefaultItem "+key] = func(list []impl.Item) ([]impl.Item, bool) {
			out, n, ok := impl.DefaultItem(list, key, 7)
			return out, ok || n != 0
		}
	}
	for _, last := range []bool{false, true} {
		name := map[bool]string{false: "PopItem first", true: "PopItem last"}[last]
		calls[name] = func(list []impl.Item) ([]impl.Item, bool) {
			out, item, ok := impl.PopItem(list, last)
			return out, ok || item != impl.Item{}
		}
	}
	return calls
}

func TestInvalidItemsInOrder(t *testing.T) {
	refusePairs(t, orderPairs(), map[string]pairCompare{"SameOrder": impl.SameOrder, "SameItems": impl.SameItems})
	refuseLists(t, orderCalls())
	for _, bad := range invalidLists() {
		for _, key := range append(keysOf(bad), "b", "z") {
			if n, ok := impl.GetItem(bad, key); ok || n != 0 {
				t.Errorf("GetItem(%v, %q) = %d, %v", bad, key, n, ok)
			}
			if place := impl.PlaceOf(bad, key); place != -1 {
				t.Errorf("PlaceOf(%v, %q) = %d", bad, key, place)
			}
			if out, ok := impl.DropItem(bad, key); ok || len(out) != 0 {
				t.Errorf("DropItem(%v, %q) = %v, %v", bad, key, out, ok)
			}
		}
	}
}

func TestItemsInOrderStay(t *testing.T) {
	keepArguments(t, orderPairs(), orderCalls())
	list, whole := roomy(firstList)
	impl.GetItem(list, "a")
	impl.PlaceOf(list, "a")
	impl.SameOrder(list, list)
	impl.SameItems(list, list)
	stays(t, "a call without items as its result", firstList, whole)
	keys := []string{"c", "z", "a", "keep"}
	impl.InKeyOrder(list, keys[:3])
	if !slices.Equal(keys, []string{"c", "z", "a", "keep"}) {
		t.Errorf("InKeyOrder has changed its keys to %q", keys)
	}
}
