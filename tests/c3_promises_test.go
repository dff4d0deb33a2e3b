package tests

import (
	"slices"
	"strings"
	"testing"

	"loop.example/tallychains/impl"
)

// shortLists are the maps that small chains are made of: they share keys, in other orders and with other numbers.
var shortLists = []string{"", "a:1 b:2", "b:3 a:0", "c:-4 b:3"}

// smallChains returns all chains of up to n maps out of the short lists.
func smallChains(n int) []impl.Chain {
	chains := []impl.Chain{{}}
	for i := 0; i < len(chains) && len(chains[i].Maps) < n; i++ {
		for _, s := range shortLists {
			chains = append(chains, impl.Chain{Maps: append(slices.Clone(chains[i].Maps), read(s))})
		}
	}
	return chains[1:]
}

// longChains returns chains of larger maps: full ones, and with more keys than a map can have.
func longChains() []impl.Chain {
	var chains []impl.Chain
	for _, s := range []string{
		mixedChain, wideChain, "{" + fullList + "}", "{" + limitList + "}", "{" + fullList + "} | {" + otherFull + "}", "{" + otherFull + "} | {a:9 i:9} | {" + fullList + "}",
		"{} | {" + fullList + "} | {} | {" + otherFull + "}", "{d:1 new:2} | {zzzz:9999 d:-9999} | {d:3 a:4 new:5}", "{a:1} | {a:2} | {a:3} | {a:4}", "{x:1} | {y:2 x:3} | {z:4 y:5} | {w:6 z:7}",
		"{" + fullList + "} | {h:8 g:7 f:6 e:5 d:4 c:3 b:2 a:1} | {" + otherFull + "} | {a:5 p:5}", "{aa:1 a:2 aaaa:3} | {aaa:4 a:5 aa:6}",
	} {
		chains = append(chains, readChain(s))
	}
	return chains
}

// chains returns the chains that promises about one chain are tried on.
func chains() []impl.Chain {
	return append(smallChains(impl.MaxMaps), longChains()...)
}

// eachChainPair calls f with pairs of chains.
func eachChainPair(f func(a, b impl.Chain)) {
	some := append(smallChains(2), longChains()...)
	for _, a := range some {
		for _, b := range some {
			f(a, b)
		}
	}
}

// allKeys returns the keys of the maps of a chain, each once.
func allKeys(c impl.Chain) []string {
	return keysOf(c.Maps...)
}

// withOthers returns keys, keys that may be none of them, and texts that are no keys.
func withOthers(keys []string) []string {
	return append(keys, "a", "c", "new", "zzzz", "", "A", "abcde")
}

// above returns the index of the first map with a key, or -1, without the program's own WhereIs.
func above(c impl.Chain, key string) int {
	return slices.IndexFunc(c.Maps, func(list []impl.Item) bool { return has(list, key) })
}

// told returns the number of a key in a chain, and whether there is one, without the program's own ChainGet.
func told(c impl.Chain, key string) (int, bool) {
	at := above(c, key)
	if at < 0 {
		return 0, false
	}
	return counted(c.Maps[at], key), true
}

// walked returns the items of a chain without the program's own ChainItems.
func walked(c impl.Chain) []impl.Item {
	turned := slices.Clone(c.Maps)
	slices.Reverse(turned)
	var list []impl.Item
	for _, key := range keysOf(turned...) {
		n, _ := told(c, key)
		list = append(list, impl.Item{Key: key, N: n})
	}
	return list
}

// tells checks that ChainGet of a key is what told gives of another chain.
func tells(t *testing.T, name string, c impl.Chain, key string, n int, there bool) {
	t.Helper()
	if got, ok := impl.ChainGet(c, key); got != n || ok != there {
		t.Fatalf("%s: ChainGet(%q, %q) = %d, %v, want %d, %v", name, writeChain(c), key, got, ok, n, there)
	}
}

// succeeded returns the chain of a call that must succeed.
func succeeded(t *testing.T, name string, c impl.Chain, ok bool) impl.Chain {
	t.Helper()
	if !ok || !impl.ValidChain(c) {
		t.Fatalf("%s = %q, %v", name, writeChain(c), ok)
	}
	return c
}

func sameMaps(a, b [][]impl.Item) bool {
	return slices.EqualFunc(a, b, slices.Equal[[]impl.Item])
}

func TestP44ChainsHaveAMap(t *testing.T) {
	for _, c := range chains() {
		if !impl.ValidChain(c) || impl.ValidChain(impl.Chain{Maps: c.Maps[:0]}) {
			t.Errorf("ValidChain(%q) = %v", writeChain(c), impl.ValidChain(c))
		}
		for k, list := range c.Maps {
			if !impl.ValidItems(list) || !impl.ValidChain(impl.Chain{Maps: c.Maps[k : k+1]}) || !impl.ValidChain(impl.Chain{Maps: c.Maps[:k+1]}) {
				t.Errorf("map %d of %q is not valid", k, writeChain(c))
			}
		}
	}
}

func TestP45TheFirstMapThatHasAKeyTells(t *testing.T) {
	for _, c := range chains() {
		for _, key := range withOthers(allKeys(c)) {
			at := impl.WhereIs(c, key)
			if at != above(c, key) {
				t.Fatalf("WhereIs(%q, %q) = %d", writeChain(c), key, at)
			}
			if at < 0 {
				continue
			}
			if _, there := impl.GetItem(c.Maps[at], key); !there {
				t.Fatalf("WhereIs(%q, %q) = %d", writeChain(c), key, at)
			}
			for _, list := range c.Maps[:at] {
				if _, there := impl.GetItem(list, key); there {
					t.Fatalf("WhereIs(%q, %q) = %d", writeChain(c), key, at)
				}
			}
		}
	}
}

func TestP46ChainsTellWhatTheirItemsTell(t *testing.T) {
	for _, c := range chains() {
		items := impl.ChainItems(c)
		for _, key := range withOthers(allKeys(c)) {
			tells(t, "its items", c, key, counted(items, key), has(items, key))
			n, there := told(c, key)
			tells(t, "its maps", c, key, n, there)
		}
	}
}

func TestP47ChainsArePutToAtTheirFirstMap(t *testing.T) {
	for _, c := range chains() {
		for _, key := range withOthers(allKeys(c)) {
			out, ok := impl.ChainPut(c, key, 77)
			first, valid := impl.PutItem(c.Maps[0], key, 77)
			if ok != valid {
				t.Fatalf("ChainPut(%q, %q) = %q, %v", writeChain(c), key, writeChain(out), ok)
			}
			if !ok {
				continue
			}
			tells(t, "ChainPut", out, key, 77, true)
			if !slices.Equal(out.Maps[0], first) || !sameMaps(out.Maps[1:], c.Maps[1:]) {
				t.Fatalf("ChainPut(%q, %q) = %q", writeChain(c), key, writeChain(out))
			}
		}
	}
}

func TestP48DroppedKeysShowWhatLiesBelow(t *testing.T) {
	for _, c := range chains() {
		for _, key := range withOthers(allKeys(c)) {
			out, n, ok := impl.ChainDrop(c, key)
			if ok != has(c.Maps[0], key) || n != counted(c.Maps[0], key) {
				t.Fatalf("ChainDrop(%q, %q) = %q, %d, %v", writeChain(c), key, writeChain(out), n, ok)
			}
			if !ok {
				continue
			}
			below, there := impl.ChainGet(impl.ParentsOf(c), key)
			tells(t, "ChainDrop", out, key, below, there)
			if !sameMaps(out.Maps[1:], c.Maps[1:]) || !slices.Equal(out.Maps[0], without(c.Maps[0], key)) {
				t.Fatalf("ChainDrop(%q, %q) = %q", writeChain(c), key, writeChain(out))
			}
			if back, ok := impl.ChainPut(out, key, n); !ok || !impl.SameChain(back, c) {
				t.Fatalf("ChainDrop(%q, %q) put back = %q, %v", writeChain(c), key, writeChain(back), ok)
			}
		}
	}
}

func TestP49DeepPutsGoWhereTheKeyIs(t *testing.T) {
	for _, c := range chains() {
		for _, key := range withOthers(allKeys(c)) {
			out, ok := impl.DeepPut(c, key, 77)
			at := max(0, above(c, key))
			list, valid := impl.PutItem(c.Maps[at], key, 77)
			if ok != valid {
				t.Fatalf("DeepPut(%q, %q) = %q, %v", writeChain(c), key, writeChain(out), ok)
			}
			if !ok {
				continue
			}
			tells(t, "DeepPut", out, key, 77, true)
			for _, other := range allKeys(c) {
				if n, there := told(c, other); other != key {
					tells(t, "DeepPut", out, other, n, there)
				}
			}
			for k := range c.Maps {
				if k == at && !slices.Equal(out.Maps[k], list) || k != at && !slices.Equal(out.Maps[k], c.Maps[k]) || above(c, key) >= 0 && len(out.Maps[k]) != len(c.Maps[k]) {
					t.Fatalf("DeepPut(%q, %q) = %q", writeChain(c), key, writeChain(out))
				}
			}
		}
	}
}

func TestP50DeepDropsTakeOneAway(t *testing.T) {
	for _, c := range chains() {
		for _, key := range withOthers(allKeys(c)) {
			rest := c
			for often := impl.HowOften(c, key); often > 0; often-- {
				out, ok := impl.DeepDrop(rest, key)
				succeeded(t, "DeepDrop", out, ok)
				at := above(rest, key)
				if impl.HowOften(out, key) != often-1 || !slices.Equal(out.Maps[at], without(rest.Maps[at], key)) {
					t.Fatalf("DeepDrop(%q, %q) = %q", writeChain(rest), key, writeChain(out))
				}
				rest = out
			}
			if out, ok := impl.DeepDrop(rest, key); ok || above(rest, key) != -1 {
				t.Fatalf("DeepDrop(%q, %q) = %q, %v", writeChain(rest), key, writeChain(out), ok)
			}
			tells(t, "DeepDrop of all", rest, key, 0, false)
		}
	}
}

func TestP51ChildrenHaveParents(t *testing.T) {
	lists := append(samples(), read(otherFull))
	for i, c := range chains() {
		out, ok := impl.NewChild(c, lists[i%len(lists)])
		if ok != (len(c.Maps) < impl.MaxMaps) {
			t.Fatalf("NewChild(%q, %q) = %q, %v", writeChain(c), write(lists[i%len(lists)]), writeChain(out), ok)
		}
		if !ok {
			continue
		}
		if parents := impl.ParentsOf(out); !sameMaps(parents.Maps, c.Maps) || !slices.Equal(out.Maps[0], lists[i%len(lists)]) {
			t.Fatalf("ParentsOf NewChild(%q, %q) = %q", writeChain(c), write(lists[i%len(lists)]), writeChain(parents))
		}
		child, ok := impl.NewChild(c, nil)
		succeeded(t, "NewChild of nothing", child, ok)
		for _, key := range withOthers(allKeys(c)) {
			n, there := told(c, key)
			tells(t, "NewChild of nothing", child, key, n, there)
		}
	}
}

func TestP52ParentsHaveOneMapLess(t *testing.T) {
	for _, c := range chains() {
		parents := succeeded(t, "ParentsOf", impl.ParentsOf(c), true)
		if len(parents.Maps) != max(1, len(c.Maps)-1) {
			t.Fatalf("ParentsOf(%q) = %q", writeChain(c), writeChain(parents))
		}
		if over, ok := impl.OverItems(impl.ChainItems(parents), c.Maps[0]); ok && !slices.Equal(over, impl.ChainItems(c)) {
			t.Fatalf("the first map over ParentsOf(%q) = %q", writeChain(c), write(over))
		}
	}
}

func TestP53ChainsAreWalkedFromBelow(t *testing.T) {
	for _, c := range chains() {
		items := impl.ChainItems(c)
		if len(keysOf(items)) != len(items) || !slices.Equal(items, walked(c)) {
			t.Fatalf("ChainItems(%q) = %q", writeChain(c), write(items))
		}
		for _, list := range c.Maps {
			if single := impl.ChainItems(impl.Chain{Maps: [][]impl.Item{list}}); !slices.Equal(single, list) {
				t.Fatalf("ChainItems of one map %q = %q", write(list), write(single))
			}
		}
	}
}

func TestP54KeysOfChainsAreThoseOfItems(t *testing.T) {
	for _, c := range chains() {
		keys := impl.ChainKeys(c)
		if !slices.Equal(keys, keysOf(impl.ChainItems(c))) || len(keys) != len(allKeys(c)) {
			t.Fatalf("ChainKeys(%q) = %q", writeChain(c), keys)
		}
		for _, key := range keys {
			if above(c, key) < 0 {
				t.Fatalf("ChainKeys(%q) = %q", writeChain(c), keys)
			}
		}
	}
}

func TestP55CollapsedChainsTellTheSame(t *testing.T) {
	for _, c := range chains() {
		out, ok := impl.CollapseChain(c)
		if ok != (len(allKeys(c)) <= impl.MaxItems) {
			t.Fatalf("CollapseChain(%q) = %q, %v", writeChain(c), writeChain(out), ok)
		}
		if !ok {
			continue
		}
		if len(out.Maps) != 1 || !slices.Equal(out.Maps[0], walked(c)) || !slices.Equal(impl.ChainItems(out), impl.ChainItems(c)) {
			t.Fatalf("CollapseChain(%q) = %q", writeChain(c), writeChain(out))
		}
		if again, ok := impl.CollapseChain(out); !ok || !sameMaps(again.Maps, out.Maps) {
			t.Fatalf("CollapseChain of CollapseChain(%q) = %q, %v", writeChain(c), writeChain(again), ok)
		}
	}
}

func TestP56JoinedChainsTellWhatTheFirstOneTells(t *testing.T) {
	eachChainPair(func(a, b impl.Chain) {
		out, ok := impl.JoinChains(a, b)
		if ok != (len(a.Maps)+len(b.Maps) <= impl.MaxMaps) {
			t.Fatalf("JoinChains(%q, %q) = %q, %v", writeChain(a), writeChain(b), writeChain(out), ok)
		}
		if !ok {
			return
		}
		for _, key := range withOthers(append(allKeys(a), allKeys(b)...)) {
			n, there := told(a, key)
			if !there {
				n, there = told(b, key)
			}
			tells(t, "JoinChains", out, key, n, there)
		}
	})
}

func TestP57MapsThatHaveAKeyAreCounted(t *testing.T) {
	for _, c := range chains() {
		for _, key := range withOthers(allKeys(c)) {
			count := 0
			for _, list := range c.Maps {
				if has(list, key) {
					count++
				}
			}
			first := impl.HowOften(impl.Chain{Maps: c.Maps[:1]}, key)
			if often := impl.HowOften(c, key); often != count || often != first+impl.HowOften(impl.ParentsOf(c), key) {
				t.Fatalf("HowOften(%q, %q) = %d", writeChain(c), key, often)
			}
		}
	}
}

func TestP58HiddenKeysAreToldAbove(t *testing.T) {
	for _, c := range chains() {
		if keys := impl.HiddenIn(c, 0); len(keys) != 0 {
			t.Fatalf("HiddenIn(%q, 0) = %q", writeChain(c), keys)
		}
		for k, list := range c.Maps {
			hidden := impl.HiddenIn(c, k)
			var want []string
			for _, key := range keysOf(list) {
				at := impl.WhereIs(c, key)
				if at < k {
					want = append(want, key)
				}
				if at != above(c, key) || !slices.Contains(hidden, key) && at != k {
					t.Fatalf("HiddenIn(%q, %d) = %q, and WhereIs %q = %d", writeChain(c), k, hidden, key, at)
				}
			}
			if !slices.Equal(hidden, want) {
				t.Fatalf("HiddenIn(%q, %d) = %q, want %q", writeChain(c), k, hidden, want)
			}
		}
	}
}

func TestP59WithNothingHiddenAChainTellsTheSame(t *testing.T) {
	for _, c := range chains() {
		out := succeeded(t, "ShowAll", impl.ShowAll(c), true)
		if len(out.Maps) != len(c.Maps) || !impl.SameChain(out, c) || !permuted(walked(out), walked(c)) {
			t.Fatalf("ShowAll(%q) = %q", writeChain(c), writeChain(out))
		}
		count := 0
		for k, list := range out.Maps {
			count += len(list)
			if keys := impl.HiddenIn(out, k); len(keys) != 0 {
				t.Fatalf("ShowAll(%q) = %q hides %q", writeChain(c), writeChain(out), keys)
			}
		}
		if count != len(impl.ChainKeys(c)) {
			t.Fatalf("ShowAll(%q) = %q has %d items", writeChain(c), writeChain(out), count)
		}
	}
}

func TestP60SameChainsTellTheSame(t *testing.T) {
	for _, c := range chains() {
		if !impl.SameChain(c, c) {
			t.Errorf("SameChain(%q) and itself = false", writeChain(c))
		}
	}
	eachChainPair(func(a, b impl.Chain) {
		want := true
		for _, key := range append(allKeys(a), allKeys(b)...) {
			n, there := told(a, key)
			m, also := told(b, key)
			want = want && there && also && n == m
		}
		if impl.SameChain(a, b) != want || impl.SameChain(b, a) != want {
			t.Fatalf("SameChain of %q and %q is not %v", writeChain(a), writeChain(b), want)
		}
	})
}

func TestP61ChainsAreReadBack(t *testing.T) {
	for _, c := range chains() {
		text := impl.ChainText(c)
		if back, ok := impl.ParseChain(text); !ok || text != writeChain(c) || !sameMaps(back.Maps, c.Maps) {
			t.Fatalf("ParseChain(%q) = %q, %v", text, writeChain(back), ok)
		}
	}
}

// TestP62TextsOfChainsAreWrittenBack tries all texts that one letter more, one less or another one makes of texts of chains.
func TestP62TextsOfChainsAreWrittenBack(t *testing.T) {
	tried := func(s string) {
		if c, ok := impl.ParseChain(s); ok && (!impl.ValidChain(c) || impl.ChainText(c) != s) {
			t.Fatalf("ParseChain(%q) = %q", s, writeChain(c))
		}
	}
	for _, s := range []string{"", "{}", "{} | {}", emptyMaps, mixedChain, "{" + limitList + "} | {} | {a:10}", wideChain} {
		tried(s)
		for i := range len(s) + 1 {
			if i < len(s) {
				tried(s[:i] + s[i+1:])
			}
			for _, letter := range strings.Split("{ } | : - + a A 0 1 9", " ") {
				tried(s[:i] + letter + s[i:])
				tried(s[:i] + letter + s[min(i+1, len(s)):])
			}
			tried(s[:i] + " " + s[i:])
			tried(s[:i] + " " + s[min(i+1, len(s)):])
			tried(s[:i] + " | " + s[i:])
			tried(s[:i] + "} | {" + s[i:])
		}
	}
}
