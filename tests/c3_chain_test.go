package tests

import (
	"fmt"
	"math"
	"slices"
	"strings"
	"testing"

	"loop.example/tallychains/impl"
)

// readChain returns the chain of a text like "{a:1 b:2} | {}" without the program's own parser, also if it is not valid; of "" it has no maps.
func readChain(s string) impl.Chain {
	var c impl.Chain
	if s == "" {
		return c
	}
	for _, part := range strings.Split(s, "|") {
		c.Maps = append(c.Maps, read(strings.Trim(part, " {}")))
	}
	return c
}

// writeChain returns the text of a chain without the program's own ChainText.
func writeChain(c impl.Chain) string {
	parts := make([]string, len(c.Maps))
	for k, list := range c.Maps {
		parts[k] = "{" + write(list) + "}"
	}
	return strings.Join(parts, " | ")
}

// expectChain checks the chain of a call against the text that is wanted; what tells of the call.
func expectChain(t *testing.T, out impl.Chain, ok bool, want string, what string, about ...any) {
	t.Helper()
	if want == failed && (ok || len(out.Maps) != 0) || want != failed && (!ok || writeChain(out) != want) {
		t.Errorf("%s = %q, %v, want %q", fmt.Sprintf(what, about...), writeChain(out), ok, want)
	}
}

const (
	mixedChain = "{a:1 b:2} | {c:3 a:4} | {b:5 d:6}"
	otherFull  = "i:1 j:2 k:3 l:4 m:5 n:6 o:7 p:8"
	// wideChain has 32 items, as many as there can be, and no key twice.
	wideChain = "{" + fullList + "} | {" + otherFull + "} | {q:1 r:2 s:3 t:4 u:5 v:6 w:7 x:8} | {y:1 z:2 aa:3 ab:4 ac:5 ad:6 ae:7 af:8}"
	emptyMaps = "{} | {} | {} | {}"
)

// invalidChains returns chains that are not valid: of no maps, of too many, and with a map of items that are not valid in each place.
func invalidChains() []impl.Chain {
	chains := []impl.Chain{{}, {Maps: [][]impl.Item{}}, readChain(emptyMaps + " | {}"), readChain("{a:1} | {a:2} | {a:3} | {a:4} | {a:5}"), {Maps: make([][]impl.Item, 100)}}
	for _, bad := range invalidLists() {
		chains = append(chains, impl.Chain{Maps: [][]impl.Item{bad}})
		for k := range impl.MaxMaps {
			c := readChain("{a:1} | {b:2} | {a:3} | {}")
			c.Maps[k] = bad
			chains = append(chains, c)
		}
	}
	return chains
}

func TestValidChain(t *testing.T) {
	for _, s := range []string{"{}", "{a:0}", "{} | {}", emptyMaps, "{a:1} | {a:1} | {a:1} | {a:1}", "{} | {a:1}", "{a:1} | {}", mixedChain, wideChain, "{" + limitList + "} | {" + limitList + "}"} {
		if !impl.ValidChain(readChain(s)) {
			t.Errorf("ValidChain(%q) = false", s)
		}
	}
	if !impl.ValidChain(impl.Chain{Maps: [][]impl.Item{{}, nil}}) {
		t.Error("ValidChain of an empty slice and a nil one = false")
	}
	for _, bad := range invalidChains() {
		if impl.ValidChain(bad) {
			t.Errorf("ValidChain(%v) = true", bad)
		}
	}
}

func TestChainLookups(t *testing.T) {
	for _, c := range []struct {
		chain, key   string
		at, n, often int
	}{
		{mixedChain, "a", 0, 1, 2}, {mixedChain, "b", 0, 2, 2}, {mixedChain, "c", 1, 3, 1}, {mixedChain, "d", 2, 6, 1}, {mixedChain, "z", -1, 0, 0},
		{mixedChain, "", -1, 0, 0}, {mixedChain, "A", -1, 0, 0}, {mixedChain, "abcde", -1, 0, 0}, {mixedChain, "a:1", -1, 0, 0}, {mixedChain, "\xff", -1, 0, 0},
		{"{}", "a", -1, 0, 0}, {"{}", "", -1, 0, 0}, {emptyMaps, "a", -1, 0, 0}, {"{a:0}", "a", 0, 0, 1}, {"{a:1}", "aa", -1, 0, 0},
		{"{} | {a:0} | {a:7}", "a", 1, 0, 2}, {"{b:1} | {} | {} | {a:-9999}", "a", 3, -9999, 1}, {"{a:9999} | {} | {} | {}", "a", 0, 9999, 1},
		{"{a:1} | {a:2} | {a:3} | {a:4}", "a", 0, 1, 4}, {"{b:1} | {a:2} | {b:3} | {a:4}", "a", 1, 2, 2}, {"{} | {} | {b:1 a:3} | {a:4}", "a", 2, 3, 2},
		{wideChain, "a", 0, -1, 1}, {wideChain, "p", 1, 8, 1}, {wideChain, "q", 2, 1, 1}, {wideChain, "af", 3, 8, 1}, {wideChain, "ag", -1, 0, 0},
	} {
		chain := readChain(c.chain)
		if at := impl.WhereIs(chain, c.key); at != c.at {
			t.Errorf("WhereIs(%q, %q) = %d, want %d", c.chain, c.key, at, c.at)
		}
		if n, ok := impl.ChainGet(chain, c.key); n != c.n || ok != (c.at >= 0) {
			t.Errorf("ChainGet(%q, %q) = %d, %v, want %d", c.chain, c.key, n, ok, c.n)
		}
		if often := impl.HowOften(chain, c.key); often != c.often {
			t.Errorf("HowOften(%q, %q) = %d, want %d", c.chain, c.key, often, c.often)
		}
	}
}

// TestPutsIntoChains tries puts at the first map, and deep ones.
func TestPutsIntoChains(t *testing.T) {
	for _, c := range []struct {
		chain, key string
		n          int
		put, deep  string
	}{
		{mixedChain, "c", 9, "{a:1 b:2 c:9} | {c:3 a:4} | {b:5 d:6}", "{a:1 b:2} | {c:9 a:4} | {b:5 d:6}"},
		{mixedChain, "d", 0, "{a:1 b:2 d:0} | {c:3 a:4} | {b:5 d:6}", "{a:1 b:2} | {c:3 a:4} | {b:5 d:0}"},
		{mixedChain, "a", 9, "{a:9 b:2} | {c:3 a:4} | {b:5 d:6}", "{a:9 b:2} | {c:3 a:4} | {b:5 d:6}"},
		{mixedChain, "z", 9, "{a:1 b:2 z:9} | {c:3 a:4} | {b:5 d:6}", "{a:1 b:2 z:9} | {c:3 a:4} | {b:5 d:6}"},
		{"{}", "a", 1, "{a:1}", "{a:1}"}, {"{} | {a:1}", "a", 2, "{a:2} | {a:1}", "{} | {a:2}"}, {"{b:1} | {}", "a", 2, "{b:1 a:2} | {}", "{b:1 a:2} | {}"},
		{emptyMaps, "a", 2, "{a:2} | {} | {} | {}", "{a:2} | {} | {} | {}"}, {"{a:1} | {} | {} | {b:1}", "b", 2, "{a:1 b:2} | {} | {} | {b:1}", "{a:1} | {} | {} | {b:2}"},
		{"{a:1} | {b:1}", "b", 9999, "{a:1 b:9999} | {b:1}", "{a:1} | {b:9999}"}, {"{a:1} | {b:1}", "b", -9999, "{a:1 b:-9999} | {b:1}", "{a:1} | {b:-9999}"},
		{"{a:1} | {b:1}", "b", 10000, failed, failed}, {"{a:1} | {b:1}", "a", -10000, failed, failed}, {"{a:1} | {b:1}", "z", 10000, failed, failed}, {"{}", "a", math.MinInt, failed, failed}, {"{} | {a:1}", "a", math.MaxInt, failed, failed},
		{"{a:1}", "", 1, failed, failed}, {"{a:1}", "abcde", 1, failed, failed}, {"{} | {a:1}", "A", 1, failed, failed}, {"{}", "a1", 1, failed, failed}, {"{}", "é", 1, failed, failed},
		{"{" + fullList + "}", "i", 1, failed, failed}, {"{" + fullList + "} | {}", "i", 1, failed, failed}, {"{" + fullList + "} | {i:1}", "i", 2, failed, "{" + fullList + "} | {i:2}"},
		{"{" + otherFull + "} | {" + fullList + "}", "h", 5, failed, "{" + otherFull + "} | {h:5 g:2 f:3 e:4 d:-4 c:-3 b:-2 a:-1}"},
		{"{" + fullList + "} | {a:1}", "a", 5, "{h:1 g:2 f:3 e:4 d:-4 c:-3 b:-2 a:5} | {a:1}", "{h:1 g:2 f:3 e:4 d:-4 c:-3 b:-2 a:5} | {a:1}"},
		{"{} | {" + fullList + "}", "i", 5, "{i:5} | {" + fullList + "}", "{i:5} | {" + fullList + "}"},
	} {
		out, ok := impl.ChainPut(readChain(c.chain), c.key, c.n)
		expectChain(t, out, ok, c.put, "ChainPut(%q, %q, %d)", c.chain, c.key, c.n)
		out, ok = impl.DeepPut(readChain(c.chain), c.key, c.n)
		expectChain(t, out, ok, c.deep, "DeepPut(%q, %q, %d)", c.chain, c.key, c.n)
	}
}

// TestDropsFromChains tries drops from the first map, and deep ones.
func TestDropsFromChains(t *testing.T) {
	for _, c := range []struct {
		chain, key string
		n          int
		drop, deep string
	}{
		{mixedChain, "a", 1, "{b:2} | {c:3 a:4} | {b:5 d:6}", "{b:2} | {c:3 a:4} | {b:5 d:6}"}, {mixedChain, "b", 2, "{a:1} | {c:3 a:4} | {b:5 d:6}", "{a:1} | {c:3 a:4} | {b:5 d:6}"},
		{mixedChain, "c", 0, failed, "{a:1 b:2} | {a:4} | {b:5 d:6}"}, {mixedChain, "d", 0, failed, "{a:1 b:2} | {c:3 a:4} | {b:5}"},
		{mixedChain, "z", 0, failed, failed}, {mixedChain, "", 0, failed, failed}, {mixedChain, "A", 0, failed, failed}, {mixedChain, "abcde", 0, failed, failed},
		{"{a:-5}", "a", -5, "{}", "{}"}, {"{a:0}", "a", 0, "{}", "{}"}, {"{}", "a", 0, failed, failed}, {emptyMaps, "a", 0, failed, failed},
		{"{} | {a:1} | {a:2}", "a", 0, failed, "{} | {} | {a:2}"}, {"{b:1} | {} | {} | {a:2}", "a", 0, failed, "{b:1} | {} | {} | {}"}, {"{a:1} | {a:2} | {a:3} | {a:4}", "a", 1, "{} | {a:2} | {a:3} | {a:4}", "{} | {a:2} | {a:3} | {a:4}"},
		{"{" + fullList + "} | {" + otherFull + "}", "e", 4, "{h:1 g:2 f:3 d:-4 c:-3 b:-2 a:-1} | {" + otherFull + "}", "{h:1 g:2 f:3 d:-4 c:-3 b:-2 a:-1} | {" + otherFull + "}"},
	} {
		out, n, ok := impl.ChainDrop(readChain(c.chain), c.key)
		expectChain(t, out, ok, c.drop, "ChainDrop(%q, %q)", c.chain, c.key)
		if n != c.n {
			t.Errorf("ChainDrop(%q, %q) gives the number %d, want %d", c.chain, c.key, n, c.n)
		}
		out, ok = impl.DeepDrop(readChain(c.chain), c.key)
		expectChain(t, out, ok, c.deep, "DeepDrop(%q, %q)", c.chain, c.key)
	}
}

func TestNewChild(t *testing.T) {
	for _, c := range []struct{ chain, list, want string }{
		{mixedChain, "q:1", "{q:1} | " + mixedChain}, {mixedChain, "", "{} | " + mixedChain}, {"{}", "", "{} | {}"}, {"{}", "a:1", "{a:1} | {}"}, {"{a:1}", "a:1", "{a:1} | {a:1}"},
		{"{a:1} | {} | {b:2}", fullList, "{" + fullList + "} | {a:1} | {} | {b:2}"}, {emptyMaps, "", failed}, {emptyMaps, "a:1", failed}, {wideChain, "", failed},
	} {
		out, ok := impl.NewChild(readChain(c.chain), read(c.list))
		expectChain(t, out, ok, c.want, "NewChild(%q, %q)", c.chain, c.list)
	}
	for _, bad := range invalidLists() {
		out, ok := impl.NewChild(readChain("{a:1}"), bad)
		expectChain(t, out, ok, failed, "NewChild(%q, %v)", "{a:1}", bad)
	}
}

func TestParentsOf(t *testing.T) {
	for _, c := range []struct{ chain, want string }{
		{mixedChain, "{c:3 a:4} | {b:5 d:6}"}, {"{c:3 a:4} | {b:5 d:6}", "{b:5 d:6}"}, {"{b:5 d:6}", "{}"}, {"{}", "{}"}, {"{a:1} | {}", "{}"}, {"{} | {a:1}", "{a:1}"}, {emptyMaps, "{} | {} | {}"},
		{"{a:1} | {a:2} | {a:3} | {a:4}", "{a:2} | {a:3} | {a:4}"},
	} {
		expectChain(t, impl.ParentsOf(readChain(c.chain)), true, c.want, "ParentsOf(%q)", c.chain)
	}
}

// TestWalkedChains tries what is told of the items of a chain; one that is too wide for it can't be collapsed.
func TestWalkedChains(t *testing.T) {
	for _, c := range []struct {
		chain, items string
		fits         bool
	}{
		{mixedChain, "b:2 d:6 c:3 a:1", true}, {"{}", "", true}, {emptyMaps, "", true}, {"{c:3 a:0}", "c:3 a:0", true}, {"{b:1} | {} | {} | {a:2}", "a:2 b:1", true}, {"{} | {b:1 a:2} | {}", "b:1 a:2", true},
		{"{a:1} | {a:2} | {a:3} | {a:4}", "a:1", true}, {"{a:1 b:2 c:3} | {c:4 b:5 a:6}", "c:3 b:2 a:1", true}, {"{a:1 x:2} | {b:3 x:4} | {x:5 c:6}", "x:2 c:6 b:3 a:1", true},
		{"{x:1} | {y:2 x:3} | {z:4 y:5}", "z:4 y:2 x:1", true}, {"{" + fullList + "}", fullList, true}, {"{a:8 h:7} | {" + fullList + "}", "h:7 g:2 f:3 e:4 d:-4 c:-3 b:-2 a:8", true},
		{"{e:1 f:1 g:1 h:1} | {a:1 b:1 c:1 d:1}", "a:1 b:1 c:1 d:1 e:1 f:1 g:1 h:1", true}, {"{i:0} | {" + fullList + "}", fullList + " i:0", false}, {"{" + fullList + "} | {i:0}", "i:0 " + fullList, false},
		{"{" + fullList + "} | {" + otherFull + "} | {a:5 i:6}", "a:-1 i:1 j:2 k:3 l:4 m:5 n:6 o:7 p:8 h:1 g:2 f:3 e:4 d:-4 c:-3 b:-2", false},
		{wideChain, "y:1 z:2 aa:3 ab:4 ac:5 ad:6 ae:7 af:8 q:1 r:2 s:3 t:4 u:5 v:6 w:7 x:8 " + otherFull + " " + fullList, false},
	} {
		chain := readChain(c.chain)
		expect(t, impl.ChainItems(chain), true, c.items, "ChainItems(%q)", c.chain)
		if keys := impl.ChainKeys(chain); !slices.Equal(keys, keysOf(read(c.items))) {
			t.Errorf("ChainKeys(%q) = %q", c.chain, keys)
		}
		want := failed
		if c.fits {
			want = "{" + c.items + "}"
		}
		out, ok := impl.CollapseChain(chain)
		expectChain(t, out, ok, want, "CollapseChain(%q)", c.chain)
	}
}

func TestJoinChains(t *testing.T) {
	for _, c := range []struct{ a, b, want string }{
		{"{a:9}", mixedChain, "{a:9} | " + mixedChain}, {mixedChain, "{a:9}", mixedChain + " | {a:9}"}, {"{}", "{}", "{} | {}"}, {"{} | {a:1}", "{b:1} | {}", "{} | {a:1} | {b:1} | {}"}, {"{a:1}", "{a:1}", "{a:1} | {a:1}"},
		{"{" + fullList + "}", "{" + otherFull + "}", "{" + fullList + "} | {" + otherFull + "}"}, {"{} | {} | {}", "{} | {}", failed}, {"{}", emptyMaps, failed}, {emptyMaps, "{}", failed}, {wideChain, wideChain, failed},
	} {
		out, ok := impl.JoinChains(readChain(c.a), readChain(c.b))
		expectChain(t, out, ok, c.want, "JoinChains(%q, %q)", c.a, c.b)
	}
}

func TestHiddenIn(t *testing.T) {
	for _, c := range []struct {
		chain  string
		k      int
		hidden string
	}{
		{mixedChain, 0, ""}, {mixedChain, 1, "a"}, {mixedChain, 2, "b"}, {mixedChain, 3, ""}, {mixedChain, -1, ""}, {mixedChain, math.MinInt, ""}, {mixedChain, math.MaxInt, ""},
		{"{a:1}", 0, ""}, {"{a:1}", 1, ""}, {"{a:1}", -1, ""}, {"{}", 0, ""}, {emptyMaps, 3, ""}, {emptyMaps, 4, ""}, {"{} | {a:1}", 1, ""}, {"{a:1} | {}", 1, ""},
		{"{a:1 b:2} | {b:3 a:4}", 1, "b a"}, {"{a:1} | {a:2} | {a:3} | {a:4}", 0, ""}, {"{a:1} | {a:2} | {a:3} | {a:4}", 1, "a"}, {"{a:1} | {a:2} | {a:3} | {a:4}", 3, "a"},
		{"{c:1} | {b:1} | {d:1 c:2 a:1 b:2}", 2, "c b"}, {"{a:1} | {b:1} | {} | {b:0 c:0 a:0}", 3, "b a"}, {"{a:1} | {b:1 c:1} | {a:2 b:2}", 1, ""},
		{wideChain, 3, ""}, {"{" + fullList + "} | {" + otherFull + "} | {" + fullList + "} | {" + otherFull + "}", 2, "h g f e d c b a"},
		{"{" + fullList + "} | {" + otherFull + "} | {} | {a:1 p:2 q:3 h:4 i:5}", 3, "a p h i"},
	} {
		if keys := impl.HiddenIn(readChain(c.chain), c.k); !slices.Equal(keys, strings.Fields(c.hidden)) {
			t.Errorf("HiddenIn(%q, %d) = %q, want %q", c.chain, c.k, keys, c.hidden)
		}
	}
}

func TestShowAll(t *testing.T) {
	for _, c := range []struct{ chain, want string }{
		{mixedChain, "{a:1 b:2} | {c:3} | {d:6}"}, {"{}", "{}"}, {emptyMaps, emptyMaps}, {"{b:0 a:1}", "{b:0 a:1}"}, {"{} | {a:1} | {}", "{} | {a:1} | {}"}, {"{a:1} | {a:2} | {a:3} | {a:4}", "{a:1} | {} | {} | {}"},
		{"{} | {a:2} | {b:1 a:3} | {a:4 b:5 c:6}", "{} | {a:2} | {b:1} | {c:6}"}, {"{c:1} | {b:1} | {d:1 c:2 a:1 b:2}", "{c:1} | {b:1} | {d:1 a:1}"}, {wideChain, wideChain},
		{"{" + fullList + "} | {a:1 z:9 h:2} | {" + otherFull + "} | {z:1 p:2 y:3}", "{" + fullList + "} | {z:9} | {" + otherFull + "} | {y:3}"},
	} {
		expectChain(t, impl.ShowAll(readChain(c.chain)), true, c.want, "ShowAll(%q)", c.chain)
	}
}

func TestSameChain(t *testing.T) {
	for _, c := range []struct {
		a, b string
		same bool
	}{
		{"{}", "{}", true}, {"{}", emptyMaps, true}, {"{}", "{a:0}", false}, {"{a:1}", "{a:1}", true}, {"{a:1}", "{a:2}", false}, {"{a:1}", "{b:1}", false}, {"{a:1 b:2}", "{a:1}", false}, {"{a:1 b:0}", "{a:1}", false},
		{"{a:1 b:2}", "{b:2 a:1}", true}, {"{a:1 b:2}", "{b:2} | {a:1}", true}, {"{a:1 b:2}", "{a:2 b:1}", false}, {"{a:1} | {a:2}", "{a:1}", true}, {"{a:1} | {a:2}", "{a:2}", false}, {"{a:1} | {a:2}", "{a:2} | {a:1}", false},
		{mixedChain, "{b:2 d:6 c:3 a:1}", true}, {mixedChain, "{d:6} | {a:1 b:2 c:3}", true}, {mixedChain, "{b:5 d:6} | {c:3 a:4} | {a:1 b:2}", false},
		{wideChain, wideChain, true}, {"{" + fullList + "} | {" + otherFull + "}", "{" + otherFull + "} | {" + fullList + "}", true}, {"{" + fullList + "} | {" + otherFull + "}", "{" + fullList + "} | {i:1 j:2 k:3 l:4 m:5 n:6 o:7 p:9}", false},
		{"{" + fullList + "} | {" + otherFull + "}", "{" + fullList + "} | {i:1 j:2 k:3 l:4 m:5 n:6 o:7}", false}, {"{" + fullList + "} | {" + otherFull + "}", "{" + fullList + "} | {i:1 j:2 k:3 l:4 m:5 n:6 o:7 q:8}", false},
	} {
		if impl.SameChain(readChain(c.a), readChain(c.b)) != c.same || impl.SameChain(readChain(c.b), readChain(c.a)) != c.same {
			t.Errorf("SameChain of %q and %q is not %v", c.a, c.b, c.same)
		}
	}
	if !impl.SameChain(impl.Chain{Maps: [][]impl.Item{nil}}, impl.Chain{Maps: [][]impl.Item{{}}}) {
		t.Error("SameChain of a nil slice and an empty one = false")
	}
}

func TestTextsOfChains(t *testing.T) {
	for _, s := range []string{"{}", "{} | {}", emptyMaps, "{a:1}", "{} | {a:1}", "{a:1} | {}", "{b:0 a:-1} | {} | {a:-1 b:0}", "{" + limitList + "} | {" + limitList + "}", mixedChain, wideChain} {
		if text := impl.ChainText(readChain(s)); text != s {
			t.Errorf("ChainText(%q) = %q", s, text)
		}
		out, ok := impl.ParseChain(s)
		expectChain(t, out, ok, s, "ParseChain(%q)", s)
	}
}

func TestTextsOfNoChain(t *testing.T) {
	bad := []string{
		"", " ", "a:1", "|", " | ", "{", "}", "}{", "{ }", "{a:1", "a:1}", " {}", "{} ", "\t{}", "{}\n", "{{}}", "{a:1}}", "{{a:1}", "{}{}", "{} {}", "(a:1)", "[]",
		"{}|{}", "{} |{}", "{}| {}", "{}  | {}", "{} |  {}", "{} | ", " | {}", "{} |", "| {}", "{} | | {}", "{} |  | {}", "{} || {}", "{} | {} | ", "{} | a:1", "a:1 | {}", "{}\t|\t{}", "{a:1 | b:2}", "{a:1} | {b:2", "{a:1} | b:2}", "{a:1 | b:2} | {}", "{ | }", "{} | {} }",
		"{ a:1}", "{a:1 }", "{a:1  b:2}", "{a:1,b:2}", "{a:1 a:2}", "{a}", "{a:}", "{:1}", "{a:01}", "{a:+1}", "{a:-0}", "{a:10000}", "{a:-10000}", "{A:1}", "{abcde:1}", "{a:1} | {a:1 a:2}", "{a:99999999999999999999}",
		"{} | {} | {} | {} | {}", wideChain + " | {}", wideChain + " | ", "{} | {} | {} | {} | a:1", strings.Repeat("{} | ", 1000) + "{}", strings.Repeat("{", 1000), "{" + fullList + " i:1}", "{a:1} | {" + fullList + " i:1}", "\xff", "{\x00}", "{é:1}",
	}
	for _, s := range bad {
		out, ok := impl.ParseChain(s)
		expectChain(t, out, ok, failed, "ParseChain(%q)", s)
	}
}

// chainCalls returns calls of all functions that give a chain; ParentsOf and ShowAll tell by it alone that they fail.
func chainCalls() map[string]func(c impl.Chain) (impl.Chain, bool) {
	single := impl.Chain{Maps: [][]impl.Item{read("q:1")}}
	calls := map[string]func(c impl.Chain) (impl.Chain, bool){
		"NewChild":          func(c impl.Chain) (impl.Chain, bool) { return impl.NewChild(c, read("q:1")) },
		"NewChild of no":    func(c impl.Chain) (impl.Chain, bool) { return impl.NewChild(c, nil) },
		"ParentsOf":         func(c impl.Chain) (impl.Chain, bool) { out := impl.ParentsOf(c); return out, len(out.Maps) > 0 },
		"ShowAll":           func(c impl.Chain) (impl.Chain, bool) { out := impl.ShowAll(c); return out, len(out.Maps) > 0 },
		"CollapseChain":     impl.CollapseChain,
		"JoinChains":        func(c impl.Chain) (impl.Chain, bool) { return impl.JoinChains(c, single) },
		"JoinChains behind": func(c impl.Chain) (impl.Chain, bool) { return impl.JoinChains(single, c) },
		"JoinChains twice":  func(c impl.Chain) (impl.Chain, bool) { return impl.JoinChains(c, c) },
	}
	for _, key := range []string{"a", "b", "c", "d", "z", "no key"} {
		calls["ChainPut "+key] = func(c impl.Chain) (impl.Chain, bool) { return impl.ChainPut(c, key, 7) }
		calls["DeepPut "+key] = func(c impl.Chain) (impl.Chain, bool) { return impl.DeepPut(c, key, 7) }
		calls["DeepDrop "+key] = func(c impl.Chain) (impl.Chain, bool) { return impl.DeepDrop(c, key) }
		calls["ChainDrop "+key] = func(c impl.Chain) (impl.Chain, bool) {
			out, n, ok := impl.ChainDrop(c, key)
			return out, ok || n != 0
		}
	}
	return calls
}

func TestInvalidChains(t *testing.T) {
	for _, bad := range invalidChains() {
		for name, f := range chainCalls() {
			out, ok := f(bad)
			expectChain(t, out, ok, failed, "%s of %v", name, bad)
		}
		for _, key := range []string{"a", "b", "z", ""} {
			at, often := impl.WhereIs(bad, key), impl.HowOften(bad, key)
			if n, ok := impl.ChainGet(bad, key); ok || n != 0 || at != -1 || often != -1 {
				t.Errorf("of %v WhereIs %q = %d, HowOften = %d, ChainGet = %d, %v", bad, key, at, often, n, ok)
			}
		}
		for k := -1; k <= len(bad.Maps); k++ {
			if keys := impl.HiddenIn(bad, k); len(keys) != 0 {
				t.Errorf("HiddenIn(%v, %d) = %q", bad, k, keys)
			}
		}
		items, keys, text := impl.ChainItems(bad), impl.ChainKeys(bad), impl.ChainText(bad)
		if len(items) != 0 || len(keys) != 0 || text != "" {
			t.Errorf("of %v ChainItems = %q, ChainKeys = %q, ChainText = %q", bad, write(items), keys, text)
		}
		for _, other := range []impl.Chain{bad, readChain("{}"), readChain("{a:1}"), readChain(mixedChain)} {
			if impl.SameChain(bad, other) || impl.SameChain(other, bad) {
				t.Errorf("SameChain of %v and %v = true", bad, other)
			}
		}
	}
}

// roomyChain returns a chain with room behind its maps and behind the items of each, which nobody may write to; spare is the whole of it.
func roomyChain(s string) (c, spare impl.Chain) {
	spare = readChain(s + " | {keep:1}")
	for k, list := range spare.Maps {
		spare.Maps[k], _ = roomy(write(list))
	}
	return impl.Chain{Maps: spare.Maps[:len(spare.Maps)-1]}, spare
}

// wholeText returns the text of a roomy chain with what is in the room behind the items of its maps.
func wholeText(spare impl.Chain) string {
	var whole impl.Chain
	for _, list := range spare.Maps {
		whole.Maps = append(whole.Maps, list[:min(cap(list), len(list)+2)])
	}
	return writeChain(whole)
}

func TestChainsStay(t *testing.T) {
	for _, s := range []string{"{a:1 b:2}", "{a:1 b:2} | {c:3 a:4}", mixedChain, "{} | {a:1} | {} | {c:1 a:2}"} {
		_, untouched := roomyChain(s)
		for name, f := range chainCalls() {
			c, spare := roomyChain(s)
			out, _ := f(c)
			before := writeChain(out)
			for _, list := range out.Maps {
				spoil(list)
			}
			clear(out.Maps[:cap(out.Maps)])
			if wholeText(spare) != wholeText(untouched) {
				t.Errorf("%s has changed its argument %q to %q", name, s, wholeText(spare))
			}
			if again, _ := f(c); writeChain(again) != before {
				t.Errorf("%s of %q = %q, and once more %q", name, s, before, writeChain(again))
			}
		}
		c, spare := roomyChain(s)
		spoil(impl.ChainItems(c))
		clear(impl.ChainKeys(c))
		clear(impl.HiddenIn(c, 1))
		if wholeText(spare) != wholeText(untouched) {
			t.Errorf("ChainItems, ChainKeys or HiddenIn has changed %q to %q", s, wholeText(spare))
		}
	}
	list, whole := roomy(firstList)
	out, _ := impl.NewChild(readChain("{a:1}"), list)
	spoil(out.Maps[0])
	stays(t, "NewChild", firstList, whole)
}

// TestMapsOfChainsAreApart checks that no map of a result shares memory with another one, also if those of the argument do.
func TestMapsOfChainsAreApart(t *testing.T) {
	list, _ := roomy(firstList)
	calls := chainCalls()
	calls["NewChild of the same"] = func(c impl.Chain) (impl.Chain, bool) { return impl.NewChild(c, list) }
	calls["ParseChain"] = func(c impl.Chain) (impl.Chain, bool) { return impl.ParseChain(writeChain(c)) }
	for name, f := range calls {
		for k := range impl.MaxMaps {
			out, _ := f(impl.Chain{Maps: [][]impl.Item{list, list}})
			if k >= len(out.Maps) {
				continue
			}
			rest := slices.Delete(slices.Clone(out.Maps), k, k+1)
			before := writeChain(impl.Chain{Maps: rest})
			spoil(out.Maps[k])
			if after := writeChain(impl.Chain{Maps: rest}); after != before {
				t.Errorf("%s: map %d shares memory with %q, now %q", name, k, before, after)
			}
		}
	}
}
