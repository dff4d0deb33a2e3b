package tests

import (
	"fmt"
	"slices"
	"strconv"
	"strings"
	"testing"

	"loop.example/tallychains/impl"
)

// read returns the items of a text like "a:1 b:-2" without the program's own parser, also if they are not valid.
func read(s string) []impl.Item {
	var list []impl.Item
	for _, part := range strings.Fields(s) {
		key, digits, _ := strings.Cut(part, ":")
		n, err := strconv.Atoi(digits)
		if err != nil {
			panic(err)
		}
		list = append(list, impl.Item{Key: key, N: n})
	}
	return list
}

// write returns the text of items without the program's own ItemsText.
func write(list []impl.Item) string {
	parts := make([]string, len(list))
	for i, item := range list {
		parts[i] = fmt.Sprintf("%s:%d", item.Key, item.N)
	}
	return strings.Join(parts, " ")
}

// failed is the text that is wanted of a call that gives no items and false.
const failed = "failed"

// expect checks the items of a call against the text that is wanted; what tells of the call.
func expect(t *testing.T, out []impl.Item, ok bool, want string, what string, about ...any) {
	t.Helper()
	if want == failed && (ok || len(out) != 0) || want != failed && (!ok || write(out) != want) {
		t.Errorf("%s = %q, %v, want %q", fmt.Sprintf(what, about...), write(out), ok, want)
	}
}

// counted returns the count of a key without the program's own CountOf.
func counted(list []impl.Item, key string) int {
	for _, item := range list {
		if item.Key == key {
			return item.N
		}
	}
	return 0
}

// keysOf returns the keys of the lists, each once, in the order in which they come first.
func keysOf(lists ...[]impl.Item) []string {
	var keys []string
	for _, list := range lists {
		for _, item := range list {
			if !slices.Contains(keys, item.Key) {
				keys = append(keys, item.Key)
			}
		}
	}
	return keys
}

// alike reports whether each key has one count in both lists, without the program's own SameCounts.
func alike(a, b []impl.Item) bool {
	for _, key := range keysOf(a, b) {
		if counted(a, key) != counted(b, key) {
			return false
		}
	}
	return true
}

// atLeast reports whether no count of a list is below n.
func atLeast(list []impl.Item, n int) bool {
	return !slices.ContainsFunc(list, func(item impl.Item) bool { return item.N < n })
}

// done returns the items of a call that must succeed.
func done(t *testing.T, name string, list []impl.Item, ok bool) []impl.Item {
	t.Helper()
	if !ok {
		t.Fatalf("%s failed", name)
	}
	return list
}

// smallLists returns all lists of the keys a and b, in both orders, with the numbers from low to high.
func smallLists(low, high int) [][]impl.Item {
	lists := [][]impl.Item{nil}
	for x := low; x <= high; x++ {
		lists = append(lists, []impl.Item{{Key: "a", N: x}}, []impl.Item{{Key: "b", N: x}})
		for y := low; y <= high; y++ {
			lists = append(lists, []impl.Item{{Key: "a", N: x}, {Key: "b", N: y}}, []impl.Item{{Key: "b", N: y}, {Key: "a", N: x}})
		}
	}
	return lists
}

// longLists returns lists of more keys: up to the limits, in other orders, and with keys of one list alone.
func longLists() [][]impl.Item {
	var lists [][]impl.Item
	for _, s := range []string{
		"a:3 b:-1 c:0 d:2",
		"d:1 a:1 e:4 b:5 f:-2",
		"c:2 b:2 a:2 d:2 e:0",
		"a:5 b:5 c:5 d:5 e:5 f:5 g:5 h:5",
		"h:1 g:2 f:3 e:4 d:-4 c:-3 b:-2 a:-1",
		"a:0 b:0 c:0 d:0 e:0 f:0 g:0 h:0",
		"z:4999 zz:-4999 zzz:1 zzzz:-1",
		"zzzz:7 a:9 z:-4999 aa:1",
		"ab:2 abc:2 abcd:1 b:3",
	} {
		lists = append(lists, read(s))
	}
	return lists
}

// samples returns the lists that promises about one list or two are tried on.
func samples() [][]impl.Item {
	return append(smallLists(-2, 2), longLists()...)
}

// withoutNegative returns those of the lists that have no count below 0.
func withoutNegative(lists [][]impl.Item) [][]impl.Item {
	return slices.DeleteFunc(slices.Clone(lists), func(list []impl.Item) bool { return !atLeast(list, 0) })
}

// eachPair calls f with all pairs of the lists.
func eachPair(lists [][]impl.Item, f func(a, b []impl.Item)) {
	for _, a := range lists {
		for _, b := range lists {
			f(a, b)
		}
	}
}
