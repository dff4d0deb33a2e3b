package tests

import (
	"fmt"
	"slices"
	"strings"
	"testing"

	"loop.example/tallychains/impl"
)

func TestKeys(t *testing.T) {
	for _, c := range []struct{ a, b, meet, join, less, odd, items string }{
		{"", "", "", "", "", "", ""},
		{"a:1", "", "", "a", "a", "a", ""},
		{"", "a:1", "", "a", "", "a", ""},
		{"c:1 a:2 b:3", "b:3 d:4 a:5", "a b", "c a b d", "c", "c d", "b:3"},
		{"b:3 d:4 a:5", "c:1 a:2 b:3", "b a", "b d a c", "d", "d c", "b:3"},
		{"a:1 b:2", "c:3 d:4", "", "a b c d", "a b", "a b c d", ""},
		{"a:1 b:2", "b:2 a:1", "a b", "a b", "", "", "a:1 b:2"},
		{"a:1 b:2", "b:1 a:2", "a b", "a b", "", "", ""},
		{"a:0 b:-9999 c:9999", "c:9999 b:9999 a:0", "a b c", "a b c", "", "", "a:0 c:9999"},
		{"ab:1 a:1 abc:1", "abcd:1 abc:1 b:1", "abc", "ab a abc abcd b", "ab a", "ab a abcd b", "abc:1"},
		{aToH, otherFull, "", "a b c d e f g h i j k l m n o p", "a b c d e f g h", "a b c d e f g h i j k l m n o p", ""},
		{aToH, fullList, "a b c d e f g h", "a b c d e f g h", "", "", ""},
		{"d:4 z:1", aToH, "d", "d z a b c e f g h", "z", "z a b c e f g h", "d:4"},
	} {
		a, b := read(c.a), read(c.b)
		for name, out := range map[string]struct {
			keys []string
			want string
		}{"MeetKeys": {impl.MeetKeys(a, b), c.meet}, "JoinKeys": {impl.JoinKeys(a, b), c.join}, "LessKeys": {impl.LessKeys(a, b), c.less}, "OddKeys": {impl.OddKeys(a, b), c.odd}} {
			if strings.Join(out.keys, " ") != out.want {
				t.Errorf("%s(%q, %q) = %q, want %q", name, c.a, c.b, out.keys, out.want)
			}
		}
		if impl.ApartKeys(a, b) != (c.meet == "") || write(impl.MeetItems(a, b)) != c.items {
			t.Errorf("of %q and %q ApartKeys = %v, MeetItems = %q", c.a, c.b, impl.ApartKeys(a, b), write(impl.MeetItems(a, b)))
		}
	}
	for _, s := range []string{"a:1", "c:1 a:2 b:3", aToH} {
		list := read(s)
		if !slices.Equal(impl.MeetKeys(list, list), keysOf(list)) || !slices.Equal(impl.JoinKeys(list, list), keysOf(list)) || len(impl.LessKeys(list, list)) != 0 || len(impl.OddKeys(list, list)) != 0 || impl.ApartKeys(list, list) || !slices.Equal(impl.MeetItems(list, list), list) {
			t.Errorf("of %q twice MeetKeys = %q, JoinKeys = %q", s, impl.MeetKeys(list, list), impl.JoinKeys(list, list))
		}
	}
}

func TestInvalidKeys(t *testing.T) {
	refusePairs(t, map[string]pairCall{
		"MeetItems": func(a, b []impl.Item) ([]impl.Item, bool) { return impl.MeetItems(a, b), false },
	}, map[string]pairCompare{
		"ApartKeys": impl.ApartKeys,
		"MeetKeys":  func(a, b []impl.Item) bool { return len(impl.MeetKeys(a, b)) != 0 },
		"JoinKeys":  func(a, b []impl.Item) bool { return len(impl.JoinKeys(a, b)) != 0 },
		"LessKeys":  func(a, b []impl.Item) bool { return len(impl.LessKeys(a, b)) != 0 },
		"OddKeys":   func(a, b []impl.Item) bool { return len(impl.OddKeys(a, b)) != 0 },
	})
}

func TestItemsOfKeysStay(t *testing.T) {
	keepArguments(t, map[string]pairCall{
		"MeetItems": func(a, b []impl.Item) ([]impl.Item, bool) { return impl.MeetItems(a, b), true },
		"keys": func(a, b []impl.Item) ([]impl.Item, bool) {
			impl.ApartKeys(a, b)
			for _, keys := range [][]string{impl.MeetKeys(a, b), impl.JoinKeys(a, b), impl.LessKeys(a, b), impl.OddKeys(a, b)} {
				clear(keys[:cap(keys)])
			}
			return nil, true
		},
	}, map[string]listCall{
		"MeetItems of itself": func(list []impl.Item) ([]impl.Item, bool) { return impl.MeetItems(list, list), true },
	})
}

// readGroups returns the groups of a text like "a(ab b) c()", also if they are not valid.
func readGroups(s string) []impl.Group {
	var list []impl.Group
	for _, part := range strings.Split(s, ")") {
		if key, texts, ok := strings.Cut(strings.TrimSpace(part), "("); ok {
			list = append(list, impl.Group{Key: key, Texts: strings.Fields(texts)})
		}
	}
	return list
}

// writeGroups returns the text that readGroups reads.
func writeGroups(list []impl.Group) string {
	parts := make([]string, len(list))
	for i, group := range list {
		parts[i] = group.Key + "(" + strings.Join(group.Texts, " ") + ")"
	}
	return strings.Join(parts, " ")
}

// expectGroups checks the groups of a call against the text that is wanted; what tells of the call.
func expectGroups(t *testing.T, out []impl.Group, ok bool, want string, what string, about ...any) {
	t.Helper()
	if want == failed && (ok || len(out) != 0) || want != failed && (!ok || writeGroups(out) != want) {
		t.Errorf("%s = %q, %v, want %q", fmt.Sprintf(what, about...), writeGroups(out), ok, want)
	}
}

const (
	mixedGroups = "b(x y) a() c(a b a)"
	fullGroups  = "a() b(x) c() d() e() f() g() h(y z)"
)

// fullGroup returns a group with as many texts as there may be.
func fullGroup(key string) string {
	return key + "(" + strings.TrimSpace(strings.Repeat("abcd z ", impl.MaxTexts/2)) + ")"
}

// noKeys returns texts that are no keys.
func noKeys() []string {
	var texts []string
	for _, list := range invalidLists() {
		if len(list) == 1 && !impl.ValidItems([]impl.Item{{Key: list[0].Key}}) {
			texts = append(texts, list[0].Key)
		}
	}
	return texts
}

// invalidGroups returns groups that are not valid: too many, keys that are none or there twice, texts that are no keys, and too many of them.
func invalidGroups() [][]impl.Group {
	lists := [][]impl.Group{
		readGroups(fullGroups + " i()"), make([]impl.Group, 1000), readGroups("a() a()"), readGroups("a(x) b() a(y)"), readGroups(fullGroups[:len(fullGroups)-6] + "a()"),
		{{Key: "a", Texts: slices.Repeat([]string{"a"}, 41)}}, {{Key: "b"}, {Key: "a", Texts: slices.Repeat([]string{"a"}, 1000)}}, {{Key: "a", Texts: slices.Repeat([]string{"a"}, 10000)}},
	}
	for _, text := range noKeys() {
		lists = append(lists, []impl.Group{{Key: text}}, []impl.Group{{Key: "b", Texts: []string{"x"}}, {Key: text, Texts: []string{"x"}}}, []impl.Group{{Key: "a", Texts: []string{text}}}, []impl.Group{{Key: "b"}, {Key: "a", Texts: []string{"x", text}}}, []impl.Group{{Key: "a", Texts: []string{text, "x"}}, {Key: "b"}})
	}
	return lists
}

func TestValidGroups(t *testing.T) {
	for _, s := range []string{"", "a()", "abcd(abcd)", "a(a a a)", "a(x) b(x)", mixedGroups, fullGroups, fullGroup("a"), fullGroup("a") + " " + fullGroup("b") + " c()"} {
		if !impl.ValidGroups(readGroups(s)) {
			t.Errorf("ValidGroups(%q) = false", s)
		}
	}
	if !impl.ValidGroups([]impl.Group{}) || !impl.ValidGroups([]impl.Group{{Key: "a", Texts: []string{}}}) {
		t.Error("ValidGroups of empty slices = false")
	}
	for _, bad := range invalidGroups() {
		if impl.ValidGroups(bad) {
			t.Errorf("ValidGroups(%q) = true", writeGroups(bad))
		}
	}
}

func TestTouchGroup(t *testing.T) {
	for _, c := range []struct{ groups, key, want, texts string }{
		{"", "a", "a()", ""}, {"", "abcd", "abcd()", ""}, {mixedGroups, "b", mixedGroups, "x y"}, {mixedGroups, "a", mixedGroups, ""}, {mixedGroups, "c", mixedGroups, "a b a"}, {mixedGroups, "x", mixedGroups + " x()", ""},
		{fullGroups, "h", fullGroups, "y z"}, {fullGroups, "a", fullGroups, ""}, {fullGroups, "i", failed, ""}, {"a() b() c() d() e() f() g(x)", "h", "a() b() c() d() e() f() g(x) h()", ""},
	} {
		out, texts, ok := impl.TouchGroup(readGroups(c.groups), c.key)
		expectGroups(t, out, ok, c.want, "TouchGroup(%q, %q)", c.groups, c.key)
		if strings.Join(texts, " ") != c.texts {
			t.Errorf("TouchGroup(%q, %q) gives %q", c.groups, c.key, texts)
		}
	}
	for _, key := range noKeys() {
		for _, s := range []string{"", mixedGroups} {
			out, texts, ok := impl.TouchGroup(readGroups(s), key)
			expectGroups(t, out, ok, failed, "TouchGroup(%q, %q)", s, key)
			if len(texts) != 0 {
				t.Errorf("TouchGroup(%q, %q) gives %q", s, key, texts)
			}
		}
	}
}

func TestAddToGroup(t *testing.T) {
	almost := strings.TrimSuffix(fullGroup("a"), " z)") + ")"
	for _, c := range []struct{ groups, key, text, want string }{
		{"", "a", "x", "a(x)"}, {mixedGroups, "b", "x", "b(x y x) a() c(a b a)"}, {mixedGroups, "a", "abcd", "b(x y) a(abcd) c(a b a)"}, {mixedGroups, "x", "b", mixedGroups + " x(b)"},
		{fullGroups, "h", "a", strings.TrimSuffix(fullGroups, ")") + " a)"}, {fullGroups, "i", "x", failed}, {almost, "a", "z", fullGroup("a")}, {fullGroup("a"), "a", "z", failed}, {fullGroup("a"), "b", "z", fullGroup("a") + " b(z)"}, {"b() " + fullGroup("a"), "a", "z", failed},
	} {
		out, ok := impl.AddToGroup(readGroups(c.groups), c.key, c.text)
		expectGroups(t, out, ok, c.want, "AddToGroup(%q, %q, %q)", c.groups, c.key, c.text)
	}
	for _, text := range noKeys() {
		for _, s := range []string{"", mixedGroups} {
			for _, pair := range [][]string{{text, "x"}, {"a", text}, {"z", text}, {text, text}} {
				out, ok := impl.AddToGroup(readGroups(s), pair[0], pair[1])
				expectGroups(t, out, ok, failed, "AddToGroup(%q, %q)", s, pair)
			}
		}
	}
}

func TestGroupSizes(t *testing.T) {
	for _, c := range []struct{ groups, want string }{
		{"", ""}, {"a()", "a:0"}, {mixedGroups, "b:2 a:0 c:3"}, {fullGroups, "a:0 b:1 c:0 d:0 e:0 f:0 g:0 h:2"}, {fullGroup("b") + " " + fullGroup("a"), "b:40 a:40"},
	} {
		expect(t, impl.GroupSizes(readGroups(c.groups)), true, c.want, "GroupSizes(%q)", c.groups)
	}
}

func TestMergeGroups(t *testing.T) {
	for _, c := range []struct{ a, b, want string }{
		{"", "", ""}, {mixedGroups, "", mixedGroups}, {"", mixedGroups, mixedGroups}, {mixedGroups, mixedGroups, "b(x y x y) a() c(a b a a b a)"}, {"b(x y) a() c(a b)", "c(z) d() a(b a) e(q)", "b(x y) a(b a) c(a b z) d() e(q)"},
		{"a()", "a()", "a()"}, {"a(x)", "b()", "a(x) b()"}, {"b()", "a(x)", "b() a(x)"}, {fullGroups, "h(x) b(y) a(z)", "a(z) b(x y) c() d() e() f() g() h(y z x)"}, {fullGroups, "i()", failed}, {"i()", fullGroups, failed}, {fullGroups, fullGroups, "a() b(x x) c() d() e() f() g() h(y z y z)"},
		{fullGroup("a"), "a(x)", failed}, {"a(x)", fullGroup("a"), failed}, {fullGroup("a"), "a()", fullGroup("a")}, {fullGroup("a"), "b(x)", fullGroup("a") + " b(x)"}, {fullGroup("a"), fullGroup("b"), fullGroup("a") + " " + fullGroup("b")},
	} {
		out, ok := impl.MergeGroups(readGroups(c.a), readGroups(c.b))
		expectGroups(t, out, ok, c.want, "MergeGroups(%q, %q)", c.a, c.b)
	}
}

func TestGroupLetters(t *testing.T) {
	for _, c := range []struct{ texts, want string }{
		{"", ""}, {"a", "a(a)"}, {"abcd", "a(abcd)"}, {"ab b a ba", "a(ab a) b(b ba)"}, {"ba ab b a ba", "b(ba b ba) a(ab a)"}, {"z y x z y z", "z(z z z) y(y y) x(x)"}, {"ab ac ab aa", "a(ab ac ab aa)"},
		{"a b c d e f g h", "a(a) b(b) c(c) d(d) e(e) f(f) g(g) h(h)"}, {"a b c d e f g h i", failed}, {"a b c d e f g ha hb aa", "a(a aa) b(b) c(c) d(d) e(e) f(f) g(g) h(ha hb)"},
		{strings.TrimSpace(strings.Repeat("abcd a ", 20)), "a(" + strings.TrimSpace(strings.Repeat("abcd a ", 20)) + ")"}, {strings.Repeat("a ", 41), failed}, {strings.Repeat("a b ", 20) + "c", failed}, {strings.Repeat("a ", 1000), failed},
	} {
		out, ok := impl.GroupLetters(strings.Fields(c.texts))
		expectGroups(t, out, ok, c.want, "GroupLetters(%q)", c.texts)
	}
	for _, text := range noKeys() {
		for _, list := range [][]string{{text}, {"a", text}, {text, "a"}, {"a", text, "b"}} {
			out, ok := impl.GroupLetters(list)
			expectGroups(t, out, ok, failed, "GroupLetters(%q)", list)
		}
	}
}

// groupCalls returns calls of all functions that give groups.
func groupCalls() map[string]func(list []impl.Group) ([]impl.Group, bool) {
	other := readGroups("b(q) z(r)")
	calls := map[string]func(list []impl.Group) ([]impl.Group, bool){
		"MergeGroups":         func(list []impl.Group) ([]impl.Group, bool) { return impl.MergeGroups(list, other) },
		"MergeGroups behind":  func(list []impl.Group) ([]impl.Group, bool) { return impl.MergeGroups(other, list) },
		"MergeGroups twice":   func(list []impl.Group) ([]impl.Group, bool) { return impl.MergeGroups(list, list) },
		"MergeGroups, nil":    func(list []impl.Group) ([]impl.Group, bool) { return impl.MergeGroups(list, nil) },
		"MergeGroups of none": func(list []impl.Group) ([]impl.Group, bool) { return impl.MergeGroups(nil, list) },
	}
	for _, key := range []string{"a", "b", "c", "z", "no key", ""} {
		calls["TouchGroup "+key] = func(list []impl.Group) ([]impl.Group, bool) {
			out, texts, ok := impl.TouchGroup(list, key)
			clear(texts[:cap(texts)])
			return out, ok || len(texts) != 0
		}
		calls["AddToGroup "+key] = func(list []impl.Group) ([]impl.Group, bool) { return impl.AddToGroup(list, key, "new") }
	}
	return calls
}

func TestInvalidGroups(t *testing.T) {
	for _, bad := range invalidGroups() {
		for name, f := range groupCalls() {
			out, ok := f(bad)
			expectGroups(t, out, ok, failed, "%s of %q", name, writeGroups(bad))
		}
		if sizes := impl.GroupSizes(bad); len(sizes) != 0 {
			t.Errorf("GroupSizes(%q) = %q", writeGroups(bad), write(sizes))
		}
	}
}

// roomyGroups returns groups with room behind them and behind the texts of each, which nobody may write to; spare is the whole of it.
func roomyGroups(s string) (list, spare []impl.Group) {
	spare = readGroups(s + " keep(this)")
	for i, group := range spare {
		texts := append(slices.Clone(group.Texts), "keep", "this")
		spare[i].Texts = texts[:len(texts)-2]
	}
	return spare[:len(spare)-1], spare
}

// wholeGroups returns the text of roomy groups with what is in the room behind their texts.
func wholeGroups(spare []impl.Group) string {
	var whole []impl.Group
	for _, group := range spare {
		whole = append(whole, impl.Group{Key: group.Key, Texts: group.Texts[:len(group.Texts)+2]})
	}
	return writeGroups(whole)
}

// spoilGroups writes over groups and all room that they have.
func spoilGroups(list []impl.Group) {
	for _, group := range list {
		for i := range group.Texts[:cap(group.Texts)] {
			group.Texts[:cap(group.Texts)][i] = "bad"
		}
	}
	clear(list[:cap(list)])
}

// TestGroupsStay checks that no call changes its argument, that no result shares memory with it, and that a call gives the same once more.
func TestGroupsStay(t *testing.T) {
	for _, s := range []string{"a()", "b(x)", mixedGroups, "z(z) a(ab a)"} {
		_, untouched := roomyGroups(s)
		for name, f := range groupCalls() {
			list, spare := roomyGroups(s)
			out, _ := f(list)
			before := writeGroups(out)
			spoilGroups(out)
			if wholeGroups(spare) != wholeGroups(untouched) {
				t.Errorf("%s has changed its argument %q to %q", name, s, wholeGroups(spare))
			}
			if again, _ := f(list); writeGroups(again) != before {
				t.Errorf("%s of %q = %q, and once more %q", name, s, before, writeGroups(again))
			}
		}
		list, spare := roomyGroups(s)
		impl.ValidGroups(list)
		spoil(impl.GroupSizes(list))
		if wholeGroups(spare) != wholeGroups(untouched) {
			t.Errorf("ValidGroups or GroupSizes has changed %q to %q", s, wholeGroups(spare))
		}
	}
	texts := []string{"ab", "b", "a", "keep"}
	out, _ := impl.GroupLetters(texts[:3])
	spoilGroups(out)
	if !slices.Equal(texts, []string{"ab", "b", "a", "keep"}) {
		t.Errorf("GroupLetters has changed its argument to %q", texts)
	}
}

// TestTextsOfGroupsAreApart checks that the texts of no group of a result share memory with those of another one, nor with the texts beside it.
func TestTextsOfGroupsAreApart(t *testing.T) {
	shared := append(make([]string, 0, 9), "x", "y")
	calls := groupCalls()
	calls["GroupLetters"] = func(list []impl.Group) ([]impl.Group, bool) {
		return impl.GroupLetters(strings.Fields("a b ab ba a b"))
	}
	for name, f := range calls {
		for k := range 3 {
			out, _ := f([]impl.Group{{Key: "a", Texts: shared}, {Key: "b", Texts: shared}})
			if k >= len(out) {
				continue
			}
			rest := slices.Delete(slices.Clone(out), k, k+1)
			before := writeGroups(rest)
			spoilGroups(out[k : k+1 : k+1])
			if after := writeGroups(rest); after != before {
				t.Errorf("%s: group %d shares memory with %q, now %q", name, k, before, after)
			}
		}
	}
	out, texts, _ := impl.TouchGroup(readGroups("a(x y)"), "a")
	spoilGroups(out)
	if !slices.Equal(texts, []string{"x", "y"}) {
		t.Errorf("the texts of TouchGroup share memory with its groups, now %q", texts)
	}
}
