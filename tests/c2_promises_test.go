package tests

import (
	"slices"
	"testing"

	"loop.example/tallychains/impl"
)

// orders returns the samples, and the long ones also turned, sorted and cut, so that there are more orders of the same items.
func orders() [][]impl.Item {
	lists := samples()
	for _, list := range longLists() {
		turned := slices.Clone(list)
		slices.Reverse(turned)
		lists = append(lists, turned, list[1:], turned[1:], append(slices.Clone(list[1:]), list[0]))
	}
	return lists
}

// someKeys returns the keys of a list, keys that it may not have, and texts that are no keys.
func someKeys(list []impl.Item) []string {
	return append(keysOf(list), "a", "b", "new", "zzzz", "", "A", "abcde")
}

// without returns a list without the item of a key.
func without(list []impl.Item, key string) []impl.Item {
	return slices.DeleteFunc(slices.Clone(list), func(item impl.Item) bool { return item.Key == key })
}

// has reports whether a list has an item of the key, without the program's own GetItem.
func has(list []impl.Item, key string) bool {
	return slices.Contains(keysOf(list), key)
}

// permuted reports whether both lists have the same items, without the program's own SameItems.
func permuted(a, b []impl.Item) bool {
	return len(a) == len(b) && !slices.ContainsFunc(a, func(item impl.Item) bool { return !slices.Contains(b, item) })
}

func TestP1ItemsCanBeCut(t *testing.T) {
	for _, list := range orders() {
		for rest := list; len(rest) > 0; rest = rest[:len(rest)-1] {
			if !impl.ValidItems(rest[:len(rest)-1]) {
				t.Errorf("ValidItems(%q) = false", write(rest[:len(rest)-1]))
			}
		}
		if turned := impl.TurnItems(list); len(turned) != len(list) || !impl.ValidItems(turned) {
			t.Errorf("ValidItems of TurnItems(%q) = false", write(list))
		}
	}
}

func TestP2CountsAreOfItems(t *testing.T) {
	for _, list := range orders() {
		for _, key := range someKeys(list) {
			n, ok := impl.GetItem(list, key)
			if ok != has(list, key) || !ok && n != 0 || impl.CountOf(list, key) != n {
				t.Errorf("GetItem(%q, %q) = %d, %v, CountOf = %d", write(list), key, n, ok, impl.CountOf(list, key))
			}
		}
	}
}

func TestP18MostCommonHasAllItems(t *testing.T) {
	for _, list := range orders() {
		if all := impl.MostCommon(list, -1); !impl.SameItems(all, list) {
			t.Errorf("SameItems of MostCommon(%q, -1) = false", write(list))
		}
	}
}

func TestP20SameCountsAreSameItemsWithoutZeros(t *testing.T) {
	eachPair(orders(), func(a, b []impl.Item) {
		if impl.SameCounts(a, b) != impl.SameItems(impl.DropZero(a), impl.DropZero(b)) {
			t.Fatalf("SameCounts(%q, %q) = %v", write(a), write(b), impl.SameCounts(a, b))
		}
	})
}

func TestP23ItemsThatAreGotAreThere(t *testing.T) {
	for _, list := range orders() {
		for _, key := range someKeys(list) {
			place := impl.PlaceOf(list, key)
			n, ok := impl.GetItem(list, key)
			if ok != (place != -1) || ok && n != list[place].N {
				t.Errorf("GetItem(%q, %q) = %d, %v, PlaceOf = %d", write(list), key, n, ok, place)
			}
		}
	}
}

func TestP24PutItemsAreGot(t *testing.T) {
	for _, list := range orders() {
		for _, key := range someKeys(list) {
			out, ok := impl.PutItem(list, key, 77)
			if !ok {
				continue
			}
			if n, ok := impl.GetItem(out, key); !ok || n != 77 {
				t.Errorf("GetItem of %q = %d, %v", write(out), n, ok)
			}
			place := impl.PlaceOf(list, key)
			if place == -1 {
				place = len(list)
			}
			if impl.PlaceOf(out, key) != place || !slices.Equal(without(out, key), without(list, key)) {
				t.Errorf("PutItem(%q, %q) = %q", write(list), key, write(out))
			}
		}
	}
}

func TestP25DroppedItemsAreGone(t *testing.T) {
	for _, list := range orders() {
		for _, key := range keysOf(list) {
			out, ok := impl.DropItem(list, key)
			done(t, "DropItem", out, ok)
			if _, there := impl.GetItem(out, key); there || !slices.Equal(out, without(list, key)) {
				t.Errorf("DropItem(%q, %q) = %q", write(list), key, write(out))
			}
		}
		if put, ok := impl.PutItem(list, "new", 5); ok {
			if back, ok := impl.DropItem(put, "new"); !ok || !slices.Equal(back, list) {
				t.Errorf("DropItem of PutItem of %q = %q, %v", write(list), write(back), ok)
			}
		}
	}
}

func TestP26MovedItemsAreAtAnEnd(t *testing.T) {
	for _, list := range orders() {
		for _, key := range keysOf(list) {
			for _, last := range []bool{false, true} {
				out, ok := impl.MoveItem(list, key, last)
				if !ok || !permuted(out, list) || !slices.Equal(without(out, key), without(list, key)) {
					t.Fatalf("MoveItem(%q, %q, %v) = %q, %v", write(list), key, last, write(out), ok)
				}
				end := out[0]
				if last {
					end = out[len(out)-1]
				}
				if end.Key != key {
					t.Errorf("MoveItem(%q, %q, %v) = %q", write(list), key, last, write(out))
				}
			}
		}
	}
}

func TestP27PoppedItemsAreMovedBack(t *testing.T) {
	for _, list := range orders() {
		for _, last := range []bool{false, true} {
			rest, item, ok := impl.PopItem(list, last)
			if ok != (len(list) > 0) {
				t.Errorf("PopItem(%q, %v) = %v", write(list), last, ok)
			}
			if !ok {
				continue
			}
			put, ok := impl.PutItem(rest, item.Key, item.N)
			done(t, "PutItem", put, ok)
			if back, ok := impl.MoveItem(put, item.Key, last); !ok || len(rest) != len(list)-1 || !slices.Equal(back, list) {
				t.Errorf("PopItem(%q, %v) moved back = %q, %v", write(list), last, write(back), ok)
			}
		}
	}
}

func TestP28KeysHaveOnePlace(t *testing.T) {
	for _, list := range orders() {
		for i, item := range list {
			if place := impl.PlaceOf(list, item.Key); place != i {
				t.Errorf("PlaceOf(%q, %q) = %d", write(list), item.Key, place)
			}
		}
	}
}

func TestP29SameOrderIsSameItems(t *testing.T) {
	eachPair(orders(), func(a, b []impl.Item) {
		same := impl.SameOrder(a, b)
		if same && !impl.SameItems(a, b) || same != impl.SameOrder(b, a) || same != (impl.ItemsText(a) == impl.ItemsText(b)) {
			t.Fatalf("SameOrder(%q, %q) = %v", write(a), write(b), same)
		}
	})
}

func TestP30OrderMeansNothing(t *testing.T) {
	eachPair(orders(), func(a, b []impl.Item) {
		same := impl.SameItems(a, b)
		if same != impl.SameOrder(impl.SortKeys(a), impl.SortKeys(b)) || same != permuted(a, b) {
			t.Fatalf("SameItems(%q, %q) = %v", write(a), write(b), same)
		}
	})
}

func TestP31WhatLiesOverTellsTheNumber(t *testing.T) {
	eachPair(orders(), func(a, b []impl.Item) {
		out, ok := impl.OverItems(a, b)
		keys := keysOf(a, b)
		if ok != (len(keys) <= impl.MaxItems) || ok && !slices.Equal(keysOf(out), keys) {
			t.Fatalf("OverItems(%q, %q) = %q, %v", write(a), write(b), write(out), ok)
		}
		for _, item := range out {
			n, there := impl.GetItem(b, item.Key)
			if !there {
				n, there = impl.GetItem(a, item.Key)
			}
			if !there || n != item.N {
				t.Fatalf("OverItems(%q, %q) = %q", write(a), write(b), write(out))
			}
		}
	})
}

func TestP32LayingOverGoesInEitherOrder(t *testing.T) {
	lists := append(smallLists(0, 1), longLists()...)
	eachPair(lists, func(a, b []impl.Item) {
		left, ok := impl.OverItems(a, b)
		if !ok {
			return
		}
		for _, c := range lists {
			right, ok := impl.OverItems(b, c)
			if !ok {
				continue
			}
			all, ok1 := impl.OverItems(left, c)
			also, ok2 := impl.OverItems(a, right)
			if ok1 != ok2 || !slices.Equal(all, also) {
				t.Fatalf("OverItems of %q, %q, %q = %q, %v and %q, %v", write(a), write(b), write(c), write(all), ok1, write(also), ok2)
			}
		}
	})
	for _, list := range orders() {
		if out, ok := impl.OverItems(list, list); !ok || !slices.Equal(out, list) {
			t.Errorf("OverItems(%q) and itself = %q, %v", write(list), write(out), ok)
		}
	}
}

func TestP33DefaultsArePutOnce(t *testing.T) {
	for _, list := range orders() {
		for _, key := range someKeys(list) {
			out, n, ok := impl.DefaultItem(list, key, 77)
			if !ok {
				continue
			}
			want, there := impl.GetItem(list, key)
			if !there {
				want = 77
			}
			if got, ok := impl.GetItem(out, key); !ok || got != want || n != want || there && !slices.Equal(out, list) {
				t.Errorf("DefaultItem(%q, %q, 77) = %q, %d", write(list), key, write(out), n)
			}
			if again, m, ok := impl.DefaultItem(out, key, 88); !ok || m != n || !slices.Equal(again, out) {
				t.Errorf("DefaultItem(%q, %q) once more = %q, %d, %v", write(list), key, write(again), m, ok)
			}
		}
	}
}

func TestP34RenamedBackIsAsBefore(t *testing.T) {
	for _, list := range orders() {
		for place, item := range list {
			out, ok := impl.RenameItem(list, item.Key, "new")
			done(t, "RenameItem", out, ok)
			if impl.PlaceOf(out, "new") != place || impl.PlaceOf(out, item.Key) != -1 {
				t.Errorf("RenameItem(%q, %q) = %q", write(list), item.Key, write(out))
			}
			if back, ok := impl.RenameItem(out, "new", item.Key); !ok || !slices.Equal(back, list) {
				t.Errorf("RenameItem(%q, %q) back = %q, %v", write(list), item.Key, write(back), ok)
			}
		}
	}
}

func TestP35TurnedTwiceIsAsBefore(t *testing.T) {
	for _, list := range orders() {
		turned := impl.TurnItems(list)
		if back := impl.TurnItems(turned); !slices.Equal(back, list) {
			t.Errorf("TurnItems of TurnItems(%q) = %q", write(list), write(back))
		}
		for i, item := range turned {
			if item != list[len(list)-1-i] {
				t.Errorf("TurnItems(%q) = %q", write(list), write(turned))
			}
		}
	}
}

func TestP36SortedKeysAscend(t *testing.T) {
	for _, list := range orders() {
		sorted := impl.SortKeys(list)
		if !permuted(sorted, list) || !slices.IsSorted(keysOf(sorted)) {
			t.Errorf("SortKeys(%q) = %q", write(list), write(sorted))
		}
		if also := impl.SortKeys(impl.TurnItems(list)); !slices.Equal(also, sorted) {
			t.Errorf("SortKeys of TurnItems(%q) = %q", write(list), write(also))
		}
	}
}

func TestP37ItemsComeInTheOrderOfKeys(t *testing.T) {
	for _, list := range orders() {
		for _, other := range longLists() {
			keys := append(keysOf(other), "b", "a", "b")
			out := impl.InKeyOrder(list, keys)
			var want []string
			for _, key := range append(slices.Clone(keys), keysOf(list)...) {
				if has(list, key) && !slices.Contains(want, key) {
					want = append(want, key)
				}
			}
			if !permuted(out, list) || !slices.Equal(keysOf(out), want) {
				t.Errorf("InKeyOrder(%q, %q) = %q", write(list), keys, write(out))
			}
		}
		if own := impl.InKeyOrder(list, keysOf(list)); !slices.Equal(own, list) {
			t.Errorf("InKeyOrder(%q) by its own keys = %q", write(list), write(own))
		}
	}
}

// caches returns valid caches: empty, with room and full ones of each limit, and with hits and misses up to their limit.
func caches() []impl.Cache {
	var all []impl.Cache
	for _, list := range append(longLists(), nil, read("a:0"), read("b:3"), read("b:1 a:-1")) {
		for most := max(1, len(list)); most <= impl.MaxItems; most++ {
			all = append(all, impl.Cache{Items: list, Most: most, Hits: most, Misses: 2}, impl.Cache{Items: list, Most: most, Hits: 9999, Misses: 9998}, impl.Cache{Items: list, Most: most, Hits: 9998, Misses: 9999})
		}
	}
	return all
}

// keyRuns returns all lists of at most n of the keys a, b, c and d.
func keyRuns(n int) [][]string {
	runs := [][]string{nil}
	for i := 0; i < len(runs) && len(runs[i]) < n; i++ {
		for _, key := range []string{"a", "b", "c", "d"} {
			runs = append(runs, append(slices.Clone(runs[i]), key))
		}
	}
	return runs
}

// run returns the cache of a run that must succeed.
func run(t *testing.T, c impl.Cache, keys []string) impl.Cache {
	t.Helper()
	out, ok := impl.RunCache(c, keys)
	if !ok || !impl.ValidCache(out) || out.Most != c.Most {
		t.Fatalf("RunCache(%q, %q) = %q, %v", writeCache(c), keys, writeCache(out), ok)
	}
	return out
}

func TestP38CachesCanBeEmptied(t *testing.T) {
	for _, c := range caches() {
		empty := c
		empty.Items = nil
		if !impl.ValidCache(c) || !impl.ValidCache(empty) {
			t.Errorf("ValidCache(%q) = %v, without items %v", writeCache(c), impl.ValidCache(c), impl.ValidCache(empty))
		}
	}
}

func TestP39WhatIsLookedUpIsTheLastOne(t *testing.T) {
	for _, c := range caches() {
		for _, key := range someKeys(c.Items) {
			want := c
			if has(c.Items, key) {
				want.Items = append(without(c.Items, key), impl.Item{Key: key, N: counted(c.Items, key)})
				want.Hits = min(9999, c.Hits+1)
			} else {
				want.Misses = min(9999, c.Misses+1)
			}
			out, n, ok := impl.LookUp(c, key)
			if ok != has(c.Items, key) || n != counted(c.Items, key) || writeCache(out) != writeCache(want) {
				t.Errorf("LookUp(%q, %q) = %q, %d, %v", writeCache(c), key, writeCache(out), n, ok)
			}
		}
	}
}

func TestP40WhatIsStoredIsThere(t *testing.T) {
	for _, c := range caches() {
		for _, key := range append(keysOf(c.Items), "new") {
			out, ok := impl.StoreItem(c, key, 77)
			if !ok || !impl.ValidCache(out) || out.Items[len(out.Items)-1].Key != key {
				t.Fatalf("StoreItem(%q, %q) = %q, %v", writeCache(c), key, writeCache(out), ok)
			}
			if _, n, there := impl.LookUp(out, key); !there || n != 77 {
				t.Errorf("LookUp after StoreItem(%q, %q) = %d, %v", writeCache(c), key, n, there)
			}
			rest := without(c.Items, key)
			if len(rest) == c.Most {
				rest = rest[1:]
			}
			if !slices.Equal(without(out.Items, key), rest) || out.Hits != c.Hits || out.Misses != c.Misses || out.Most != c.Most {
				t.Errorf("StoreItem(%q, %q) = %q", writeCache(c), key, writeCache(out))
			}
		}
	}
}

func TestP41SmallerCachesKeepWhatWasUsedLast(t *testing.T) {
	for _, c := range caches() {
		for most := 1; most <= impl.MaxItems; most++ {
			out, ok := impl.ResizeCache(c, most)
			want := impl.Cache{Items: c.Items[max(0, len(c.Items)-most):], Most: most, Hits: c.Hits, Misses: c.Misses}
			if !ok || writeCache(out) != writeCache(want) {
				t.Errorf("ResizeCache(%q, %d) = %q, %v", writeCache(c), most, writeCache(out), ok)
			}
			if back, ok := impl.ResizeCache(out, c.Most); most >= c.Most && (!ok || writeCache(back) != writeCache(c)) {
				t.Errorf("ResizeCache(%q, %d) back = %q, %v", writeCache(c), most, writeCache(back), ok)
			}
		}
	}
}

func TestP42EachLookIsCounted(t *testing.T) {
	for _, begin := range []impl.Cache{{Most: 1}, {Most: 3, Hits: 5, Misses: 7}, readCache("c:3 z:4 a:0 | 3 1 1"), readCache(fullList + " | 8 0 0")} {
		for _, keys := range keyRuns(5) {
			out := run(t, begin, keys)
			if out.Hits+out.Misses != begin.Hits+begin.Misses+len(keys) || out.Hits < begin.Hits || out.Misses < begin.Misses {
				t.Fatalf("RunCache(%q, %q) = %q", writeCache(begin), keys, writeCache(out))
			}
			if len(keys) > 0 && out.Items[len(out.Items)-1].Key != keys[len(keys)-1] {
				t.Fatalf("RunCache(%q, %q) = %q", writeCache(begin), keys, writeCache(out))
			}
		}
	}
}

// TestP42RunsAreLooksAndStores holds RunCache against the single calls that it stands for.
func TestP42RunsAreLooksAndStores(t *testing.T) {
	for _, begin := range append(caches(), impl.Cache{Most: 2}) {
		for _, keys := range keyRuns(3) {
			want := begin
			for _, key := range keys {
				var there bool
				if want, _, there = impl.LookUp(want, key); !there {
					want, _ = impl.StoreItem(want, key, 1)
				}
			}
			if out := run(t, begin, keys); writeCache(out) != writeCache(want) {
				t.Fatalf("RunCache(%q, %q) = %q, want %q", writeCache(begin), keys, writeCache(out), writeCache(want))
			}
		}
	}
}

func TestP43WiderCachesHaveWhatNarrowerOnesHave(t *testing.T) {
	for _, items := range []string{"", "a:1", "d:1 b:1", "c:5 a:7"} {
		for _, keys := range keyRuns(6) {
			begin := impl.Cache{Items: read(items), Most: max(1, len(read(items)))}
			narrow := run(t, begin, keys)
			for begin.Most < 5 {
				begin.Most++
				wide := run(t, begin, keys)
				for _, item := range narrow.Items {
					// What the narrower cache had to store anew with 1, the wider one may still have as it was at first.
					n, there := impl.GetItem(wide.Items, item.Key)
					if !there || n != item.N && n != counted(begin.Items, item.Key) {
						t.Fatalf("RunCache(%q, %q) = %q, with a smaller limit %q", writeCache(begin), keys, writeCache(wide), writeCache(narrow))
					}
				}
				if wide.Hits < narrow.Hits {
					t.Fatalf("RunCache(%q, %q) has %d hits, with a smaller limit %d", writeCache(begin), keys, wide.Hits, narrow.Hits)
				}
				narrow = wide
			}
		}
	}
}
