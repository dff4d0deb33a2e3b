package tests

import (
	"fmt"
	"math"
	"slices"
	"strings"
	"testing"

	"loop.example/tallychains/impl"
)

// readCache returns the cache of a text like "a:1 b:2 | 3 0 0": its items, Most, Hits and Misses.
func readCache(s string) impl.Cache {
	items, numbers, _ := strings.Cut(s, "|")
	c := impl.Cache{Items: read(items)}
	if _, err := fmt.Sscan(numbers, &c.Most, &c.Hits, &c.Misses); err != nil {
		panic(err)
	}
	return c
}

func writeCache(c impl.Cache) string {
	return strings.TrimSpace(fmt.Sprintf("%s | %d %d %d", write(c.Items), c.Most, c.Hits, c.Misses))
}

// noCache is the text of the zero value, which calls that fail give.
const noCache = "| 0 0 0"

// expectCache checks the cache of a call, which has succeeded unless the zero value is wanted.
func expectCache(t *testing.T, out impl.Cache, ok bool, want string, what string, about ...any) {
	t.Helper()
	if ok != (want != noCache) || writeCache(out) != want {
		t.Errorf("%s = %q, %v, want %q", fmt.Sprintf(what, about...), writeCache(out), ok, want)
	}
}

// invalidCaches returns caches of which one part alone is not valid.
func invalidCaches() []impl.Cache {
	caches := []impl.Cache{{}}
	for _, s := range []string{
		"a:1 | 0 0 0", "| 0 0 0", "| -1 0 0", "| 9 0 0", "a:1 | 9 0 0", "a:1 | -8 0 0", "a:1 b:2 | 1 0 0", fullList + " | 7 0 0", fullList + " | 9 0 0",
		"a:1 | 2 -1 0", "a:1 | 2 0 -1", "a:1 | 2 10000 0", "a:1 | 2 0 10000", "| 2 -9999 0", "| 2 0 -9999",
	} {
		caches = append(caches, readCache(s))
	}
	for _, n := range []int{math.MinInt, math.MaxInt} {
		caches = append(caches, impl.Cache{Most: n}, impl.Cache{Most: 2, Hits: n}, impl.Cache{Most: 2, Misses: n})
	}
	for _, list := range invalidLists() {
		caches = append(caches, impl.Cache{Items: list, Most: impl.MaxItems})
	}
	return caches
}

func TestValidCache(t *testing.T) {
	for _, s := range []string{"| 1 0 0", "| 8 0 0", "| 4 9999 9999", "a:1 | 1 0 0", "a:1 | 8 1 2", fullList + " | 8 0 0", limitList + " | 3 9999 0", limitList + " | 4 0 9999"} {
		if !impl.ValidCache(readCache(s)) {
			t.Errorf("ValidCache(%q) = false", s)
		}
	}
	for _, bad := range invalidCaches() {
		if impl.ValidCache(bad) {
			t.Errorf("ValidCache(%v) = true", bad)
		}
	}
}

func TestLookUp(t *testing.T) {
	for _, c := range []struct {
		cache, key, want string
		n                int
		there            bool
	}{
		{"a:1 b:2 c:3 | 3 0 0", "a", "b:2 c:3 a:1 | 3 1 0", 1, true}, {"a:1 b:2 c:3 | 3 4 5", "b", "a:1 c:3 b:2 | 3 5 5", 2, true}, {"a:1 b:2 c:3 | 8 0 0", "c", "a:1 b:2 c:3 | 8 1 0", 3, true},
		{"a:1 b:2 c:3 | 3 4 5", "z", "a:1 b:2 c:3 | 3 4 6", 0, false}, {"| 2 0 0", "a", "| 2 0 1", 0, false}, {"a:0 | 1 0 0", "a", "a:0 | 1 1 0", 0, true},
		{"a:1 b:2 | 2 9998 7", "a", "b:2 a:1 | 2 9999 7", 1, true}, {"a:1 b:2 | 2 9999 7", "a", "b:2 a:1 | 2 9999 7", 1, true},
		{"a:1 b:2 | 2 7 9998", "z", "a:1 b:2 | 2 7 9999", 0, false}, {"a:1 b:2 | 2 7 9999", "z", "a:1 b:2 | 2 7 9999", 0, false}, {"a:1 | 1 9999 9999", "a", "a:1 | 1 9999 9999", 1, true},
		{"a:1 | 1 0 0", "", "a:1 | 1 0 1", 0, false}, {"a:1 | 1 0 0", "abcde", "a:1 | 1 0 1", 0, false}, {"a:1 | 1 0 0", "A", "a:1 | 1 0 1", 0, false}, {"a:1 | 1 0 0", "a:1", "a:1 | 1 0 1", 0, false},
		{fullList + " | 8 0 0", "e", "h:1 g:2 f:3 d:-4 c:-3 b:-2 a:-1 e:4 | 8 1 0", 4, true},
	} {
		out, n, there := impl.LookUp(readCache(c.cache), c.key)
		if writeCache(out) != c.want || n != c.n || there != c.there {
			t.Errorf("LookUp(%q, %q) = %q, %d, %v, want %q, %d, %v", c.cache, c.key, writeCache(out), n, there, c.want, c.n, c.there)
		}
	}
}

func TestStoreItem(t *testing.T) {
	for _, c := range []struct {
		cache, key string
		n          int
		want       string
	}{
		{"a:1 b:2 c:3 | 3 1 2", "d", 4, "b:2 c:3 d:4 | 3 1 2"}, {"a:1 b:2 c:3 | 4 0 0", "d", 4, "a:1 b:2 c:3 d:4 | 4 0 0"}, {"| 1 0 0", "d", 4, "d:4 | 1 0 0"},
		{"a:1 b:2 c:3 | 3 0 0", "a", 4, "b:2 c:3 a:4 | 3 0 0"}, {"a:1 b:2 c:3 | 3 0 0", "b", 2, "a:1 c:3 b:2 | 3 0 0"}, {"a:1 b:2 c:3 | 3 0 0", "c", 0, "a:1 b:2 c:0 | 3 0 0"}, {"a:1 b:2 c:3 | 5 0 0", "a", 4, "b:2 c:3 a:4 | 5 0 0"},
		{"a:1 | 1 0 0", "b", 2, "b:2 | 1 0 0"}, {"a:1 | 1 0 0", "a", 2, "a:2 | 1 0 0"}, {"a:1 | 1 9999 9999", "b", 2, "b:2 | 1 9999 9999"},
		{"a:1 | 2 0 0", "b", 9999, "a:1 b:9999 | 2 0 0"}, {"a:1 | 2 0 0", "a", -9999, "a:-9999 | 2 0 0"},
		{"a:1 | 2 0 0", "b", 10000, noCache}, {"a:1 | 2 0 0", "a", 10000, noCache}, {"a:1 | 1 0 0", "a", -10000, noCache}, {"a:1 | 1 0 0", "b", math.MinInt, noCache},
		{"a:1 | 2 0 0", "", 1, noCache}, {"a:1 | 1 0 0", "abcde", 1, noCache}, {"a:1 | 2 0 0", "A", 1, noCache}, {"| 2 0 0", "a1", 1, noCache}, {"| 2 0 0", "é", 1, noCache},
		{fullList + " | 8 0 0", "i", 5, "g:2 f:3 e:4 d:-4 c:-3 b:-2 a:-1 i:5 | 8 0 0"}, {fullList + " | 8 0 0", "h", 5, "g:2 f:3 e:4 d:-4 c:-3 b:-2 a:-1 h:5 | 8 0 0"}, {fullList + " | 8 0 0", "a", 5, "h:1 g:2 f:3 e:4 d:-4 c:-3 b:-2 a:5 | 8 0 0"},
	} {
		out, ok := impl.StoreItem(readCache(c.cache), c.key, c.n)
		expectCache(t, out, ok, c.want, "StoreItem(%q, %q, %d)", c.cache, c.key, c.n)
	}
}

func TestResizeCache(t *testing.T) {
	for _, c := range []struct {
		cache string
		most  int
		want  string
	}{
		{"a:1 b:2 c:3 | 3 1 2", 3, "a:1 b:2 c:3 | 3 1 2"}, {"a:1 b:2 c:3 | 3 1 2", 2, "b:2 c:3 | 2 1 2"}, {"a:1 b:2 c:3 | 3 1 2", 1, "c:3 | 1 1 2"}, {"a:1 b:2 c:3 | 3 1 2", 8, "a:1 b:2 c:3 | 8 1 2"},
		{"a:1 b:2 | 8 0 0", 2, "a:1 b:2 | 2 0 0"}, {"a:1 b:2 | 8 0 0", 1, "b:2 | 1 0 0"}, {"a:1 b:2 | 8 0 0", 3, "a:1 b:2 | 3 0 0"}, {"| 8 9999 9999", 1, "| 1 9999 9999"},
		{fullList + " | 8 0 0", 1, "a:-1 | 1 0 0"}, {fullList + " | 8 0 0", 7, "g:2 f:3 e:4 d:-4 c:-3 b:-2 a:-1 | 7 0 0"}, {fullList + " | 8 0 0", 8, fullList + " | 8 0 0"},
		{"a:1 | 3 0 0", 0, noCache}, {"a:1 | 3 0 0", -1, noCache}, {"a:1 | 3 0 0", 9, noCache}, {"| 3 0 0", 0, noCache}, {"a:1 | 3 0 0", math.MinInt, noCache}, {"a:1 | 3 0 0", math.MaxInt, noCache},
	} {
		out, ok := impl.ResizeCache(readCache(c.cache), c.most)
		expectCache(t, out, ok, c.want, "ResizeCache(%q, %d)", c.cache, c.most)
	}
}

func TestRunCache(t *testing.T) {
	for _, c := range []struct{ cache, keys, want string }{
		{"| 2 0 0", "a b a c b a", "b:1 a:1 | 2 1 5"}, {"| 3 0 0", "a b a c b a", "c:1 b:1 a:1 | 3 3 3"}, {"| 1 0 0", "a a b b a", "a:1 | 1 2 3"},
		{"a:5 b:7 | 2 3 4", "", "a:5 b:7 | 2 3 4"}, {"a:5 b:7 | 2 0 0", "a c", "a:5 c:1 | 2 1 1"}, {"a:5 b:7 | 2 0 0", "c a", "c:1 a:1 | 2 0 2"}, {"a:5 b:7 | 3 0 0", "c a", "b:7 c:1 a:5 | 3 1 1"},
		{"a:5 | 1 9998 9998", "a a a b b", "b:1 | 1 9999 9999"}, {"a:5 | 1 9998 0", "a a", "a:5 | 1 9999 0"}, {"a:5 | 1 0 9999", "b", "b:1 | 1 0 9999"},
		{"| 8 0 0", strings.Repeat("a ", 40), "a:1 | 8 39 1"}, {"| 8 0 0", strings.Repeat("a ", 41), noCache},
		{"| 1 0 0", strings.Repeat("a b ", 20), "b:1 | 1 0 40"}, {"| 8 0 0", "a b c d e f g h i", "b:1 c:1 d:1 e:1 f:1 g:1 h:1 i:1 | 8 0 9"},
		{"| 2 0 0", "A", noCache}, {"| 2 0 0", "a abcde", noCache}, {"| 2 0 0", "a1 a", noCache}, {"a:1 | 2 0 0", "a é b", noCache},
	} {
		out, ok := impl.RunCache(readCache(c.cache), strings.Fields(c.keys))
		expectCache(t, out, ok, c.want, "RunCache(%q, %q)", c.cache, c.keys)
	}
	out, ok := impl.RunCache(readCache("| 2 0 0"), []string{"a", ""})
	expectCache(t, out, ok, noCache, "RunCache with an empty text")
}

// cacheCalls returns calls of all functions that give a cache.
func cacheCalls() map[string]func(c impl.Cache) (impl.Cache, bool) {
	calls := map[string]func(c impl.Cache) (impl.Cache, bool){
		"RunCache":         func(c impl.Cache) (impl.Cache, bool) { return impl.RunCache(c, []string{"a", "new", "d"}) },
		"RunCache of none": func(c impl.Cache) (impl.Cache, bool) { return impl.RunCache(c, nil) },
	}
	for _, key := range []string{"a", "d", "c", "new", "no key"} {
		calls["LookUp "+key] = func(c impl.Cache) (impl.Cache, bool) {
			out, n, ok := impl.LookUp(c, key)
			return out, ok || n != 0
		}
		calls["StoreItem "+key] = func(c impl.Cache) (impl.Cache, bool) { return impl.StoreItem(c, key, 7) }
	}
	for _, most := range []int{1, 4, 8} {
		calls[fmt.Sprintf("ResizeCache %d", most)] = func(c impl.Cache) (impl.Cache, bool) { return impl.ResizeCache(c, most) }
	}
	return calls
}

func TestInvalidCaches(t *testing.T) {
	for _, bad := range invalidCaches() {
		for name, f := range cacheCalls() {
			out, ok := f(bad)
			expectCache(t, out, ok, noCache, "%s of %v", name, bad)
		}
	}
}

func TestCachesStay(t *testing.T) {
	for name, f := range cacheCalls() {
		for _, most := range []int{4, 8} {
			list, whole := roomy(firstList)
			c := impl.Cache{Items: list, Most: most, Hits: 1, Misses: 2}
			before, _ := f(c)
			text := writeCache(before)
			spoil(before.Items)
			stays(t, name, firstList, whole)
			if again, _ := f(c); writeCache(again) != text {
				t.Errorf("%s = %q, and once more %q", name, text, writeCache(again))
			}
		}
	}
	keys := []string{"a", "z", "a", "keep"}
	impl.RunCache(impl.Cache{Most: 1}, keys[:3])
	if !slices.Equal(keys, []string{"a", "z", "a", "keep"}) {
		t.Errorf("RunCache has changed its keys to %q", keys)
	}
}
