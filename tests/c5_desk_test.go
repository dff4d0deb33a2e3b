package tests

import (
	"slices"
	"strings"
	"testing"

	"loop.example/tallychains/impl"
)

// deskCase is a line of a desk, and the answer that is wanted.
type deskCase struct{ line, want string }

func tryDesk(t *testing.T, cases []deskCase) {
	t.Helper()
	for _, c := range cases {
		if out := impl.RunDesk([]string{c.line}); out != c.want+"\n" {
			t.Errorf("RunDesk of %q = %q, want %q", c.line, out, c.want)
		}
	}
}

func TestDeskOfItems(t *testing.T) {
	tryDesk(t, []deskCase{
		{"add a:1 b:2 with b:3", "[a:1 b:5]"}, {"add a:1 b:2 with b:-2 c:0 d:4", "[a:1 d:4]"}, {"add  with ", "[]"}, {"add a:1 with ", "[a:1]"}, {"add  with a:-1", "[]"}, {"add a:9999 with a:1", "wrong"}, {"add " + aToH + " with i:1", "wrong"}, {"add " + aToH + " with i:0 a:1", "[a:2 b:2 c:3 d:4 e:5 f:6 g:7 h:8]"},
		{"less a:3 with a:1 b:-2", "[a:2 b:2]"}, {"less a:3 with a:3", "[]"}, {"less  with a:-9999", "[a:9999]"}, {"less a:9999 with a:-1", "wrong"}, {"less b:1 a:2 with ", "[b:1 a:2]"},
		{"meet a:3 b:1 with b:4", "[b:1]"}, {"meet a:3 with b:4", "[]"}, {"meet  with ", "[]"}, {"meet b:2 a:3 with a:9999 b:-1", "[a:3]"},
		{"over a:1 b:2 with b:3 c:4", "[a:1 b:3 c:4]"}, {"over a:-1 b:0 with ", "[a:-1 b:0]"}, {"over  with z:-9999", "[z:-9999]"}, {"over " + aToH + " with i:1", "wrong"}, {"over " + aToH + " with h:0 a:-1", "[a:-1 b:2 c:3 d:4 e:5 f:6 g:7 h:0]"},
		// The first " with " is the one between the texts: a key may be with.
		{"add with:1 with with:2", "[with:3]"}, {"over a:1 with with:2", "[a:1 with:2]"}, {"add a:1 with b:1 with c:1", "wrong"}, {"add  with  with ", "wrong"}, {"add a:1 with  with ", "wrong"},
	})
	for _, word := range []string{"add", "less", "meet", "over"} {
		for _, about := range []string{"", " ", "a:1", "a:1 b:2", "with", " with", "with ", "a:1 with", "with a:1", "a:1  with b:1", "a:1 with  b:1", "a:1 WITH b:1", "a:1\twith\tb:1", "a:1 with b", "a with b:1", "a:01 with b:1", "a:1 with b:+1", "a:1 a:2 with b:1", "a:1 with b:1 b:1", "A:1 with b:1", "a:1 with abcde:1", "a:10000 with b:1", "a:1 with b:-10000", " a:1 with b:1", "a:1 with b:1 ", "a:1 with b:1\n", aToH + " i:1 with ", " with " + aToH + " i:1", "[a:1] with [b:1]"} {
			tryDesk(t, []deskCase{{word + " " + about, "wrong"}})
		}
	}
}

func TestDeskOfChains(t *testing.T) {
	tryDesk(t, []deskCase{
		{"chain {a:1} | {b:2 a:3}", "[b:2 a:1]"}, {"chain {}", "[]"}, {"chain " + emptyMaps, "[]"}, {"chain {a:-1 b:0}", "[a:-1 b:0]"}, {"chain " + mixedChain, "[b:2 d:6 c:3 a:1]"},
		// However many they are.
		{"chain {" + otherFull + "} | {" + aToH + "}", "[" + aToH + " " + otherFull + "]"}, {"chain " + wideChain, "[" + write(walked(readChain(wideChain))) + "]"},
		{"chain ", "wrong"}, {"chain  {}", "wrong"}, {"chain {} ", "wrong"}, {"chain {a", "wrong"}, {"chain a:1", "wrong"}, {"chain {a:1}|{b:2}", "wrong"}, {"chain {} | {} | {} | {} | {}", "wrong"}, {"chain {a:1 a:1}", "wrong"}, {"chain {a:1} with {b:2}", "wrong"}, {"chain {a:01}", "wrong"}, {"chain {" + aToH + " i:1}", "wrong"},
	})
}

func TestDeskOfCounts(t *testing.T) {
	tryDesk(t, []deskCase{
		{"count a", "[a:1]"}, {"count b a b", "[b:2 a:1]"}, {"count a b b", "[b:2 a:1]"}, {"count c b a", "[c:1 b:1 a:1]"}, {"count a b c b c", "[b:2 c:2 a:1]"}, {"count with with a", "[with:2 a:1]"}, {"count h g f e d c b a a", "[a:2 h:1 g:1 f:1 e:1 d:1 c:1 b:1]"},
		{"count" + strings.Repeat(" abcd", 40), "[abcd:40]"}, {"count" + strings.Repeat(" a", 41), "wrong"}, {"count a b c d e f g h i", "wrong"},
		{"count ", "wrong"}, {"count  ", "wrong"}, {"count  a", "wrong"}, {"count a ", "wrong"}, {"count a  b", "wrong"}, {"count A", "wrong"}, {"count a abcde", "wrong"}, {"count a:1", "wrong"}, {"count a\tb", "wrong"}, {"count a\n", "wrong"}, {"count 1", "wrong"}, {"count a," + strings.Repeat(" ", 100000), "wrong"},
	})
}

func TestDeskOfCaches(t *testing.T) {
	tryDesk(t, []deskCase{
		{"cache 2 a b a c", "[a:1 c:1] 1 3"}, {"cache 2", "[] 0 0"}, {"cache 1 a a b a", "[a:1] 1 3"}, {"cache 8 a b c d e f g h a", "[b:1 c:1 d:1 e:1 f:1 g:1 h:1 a:1] 1 8"}, {"cache 8 a b c d e f g h i", "[b:1 c:1 d:1 e:1 f:1 g:1 h:1 i:1] 0 9"}, {"cache 8", "[] 0 0"},
		{"cache 3" + strings.Repeat(" abcd", 40), "[abcd:1] 39 1"}, {"cache 3" + strings.Repeat(" a", 41), "wrong"}, {"cache 4" + strings.Repeat(" a b", 20), "[a:1 b:1] 38 2"},
		{"cache 0", "wrong"}, {"cache 0 a", "wrong"}, {"cache 9", "wrong"}, {"cache 9 a", "wrong"}, {"cache -1 a", "wrong"}, {"cache 10", "wrong"}, {"cache 99999999999999999999 a", "wrong"},
		{"cache ", "wrong"}, {"cache  ", "wrong"}, {"cache a", "wrong"}, {"cache a 2", "wrong"}, {"cache  2 a", "wrong"}, {"cache 2 ", "wrong"}, {"cache 2  a", "wrong"}, {"cache 2 a ", "wrong"}, {"cache 02 a", "wrong"}, {"cache +2 a", "wrong"}, {"cache 2.0", "wrong"}, {"cache 0x2", "wrong"}, {"cache 2_0", "wrong"}, {"cache \u0662 a", "wrong"}, {"cache 2a", "wrong"}, {"cache 2 A", "wrong"}, {"cache 2 a abcde", "wrong"}, {"cache 2 3", "wrong"}, {"cache 2\n", "wrong"}, {"cache 2\ta", "wrong"}, {"cache 2 a:1", "wrong"},
	})
}

func TestDeskOfOtherLines(t *testing.T) {
	for _, line := range []string{"", " ", "  ", "add", "less", "meet", "over", "chain", "count", "cache", "help", "what", "wrong", "walk a", "help a:1 with b:2", " add a:1 with b:1", "Add a:1 with b:1", "ADD a:1 with b:1", "adds a:1 with b:1", "ad a:1 with b:1", "add\ta:1", "add\n", "add:a:1 with b:1", "with a:1", "count\ta", "join a:1 with b:1", "add\x00 a:1 with b:1", "caché 2", "\xff \xff"} {
		tryDesk(t, []deskCase{{line, "what"}})
	}
}

func TestDeskOfManyLines(t *testing.T) {
	if out := impl.RunDesk(nil); out != "" {
		t.Errorf("RunDesk of no lines = %q", out)
	}
	lines := slices.Repeat([]string{"add a:1 with a:1", "", "chain {", "cache 1 a"}, 5)
	want := strings.Repeat("[a:2]\nwhat\nwrong\n[a:1] 0 1\n", 5)
	if out := impl.RunDesk(lines); len(lines) != impl.MaxDesk || out != want {
		t.Errorf("RunDesk of %d lines = %q", len(lines), out)
	}
	for _, more := range [][]string{append(slices.Clone(lines), "count a"), append(slices.Clone(lines), ""), make([]string, 21), make([]string, 1000)} {
		if out := impl.RunDesk(more); out != "" {
			t.Errorf("RunDesk of %d lines = %q", len(more), out)
		}
	}
	before := slices.Clone(lines)
	if out := impl.RunDesk(lines); out != want || !slices.Equal(lines, before) {
		t.Errorf("RunDesk once more = %q, of %q", out, lines)
	}
}
