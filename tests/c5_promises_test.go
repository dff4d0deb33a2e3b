package tests

import (
	"slices"
	"strings"
	"testing"

	"loop.example/tallychains/impl"
)

// manySteps returns the steps that promises about all steps are tried on.
func manySteps() [][]impl.Step {
	lists := append(itemSteps(), stepLists("", "o n2 +abcd:-9999 -z <a p-9999 q s9:9999", 3, "")...)
	return append(lists, longSteps(), make([]impl.Step, impl.MaxSteps))
}

// changeNothing reports whether a step only opens a cursor, or asks one.
func changeNothing(step impl.Step) bool {
	return step.Kind == impl.StOpen || step.Kind == impl.StNext
}

// walkSteps returns the steps that open a cursor and ask it n times.
func walkSteps(n int) []impl.Step {
	return append(readSteps("o"), slices.Repeat(readSteps("n0"), n)...)
}

// answered returns the answers of a walk that must succeed.
func answered(t *testing.T, name string, out []impl.Answer, ok bool) []impl.Answer {
	t.Helper()
	if !ok {
		t.Fatalf("%s failed", name)
	}
	return out
}

// cursorsOf returns the cursor of each answer to steps.
func cursorsOf(steps []impl.Step) []int {
	var cursors []int
	for _, step := range steps {
		if step.Kind == impl.StNext {
			cursors = append(cursors, step.A)
		}
	}
	return cursors
}

func TestP4CountsThatAreAddedHaveJoinedKeys(t *testing.T) {
	eachPair(orders(), func(a, b []impl.Item) {
		keys := impl.JoinKeys(a, b)
		sum, ok := impl.UpdateCounts(a, b)
		if ok && !slices.Equal(keysOf(sum), keys) {
			t.Fatalf("UpdateCounts(%q, %q) = %q, and JoinKeys = %q", write(a), write(b), write(sum), keys)
		}
		for _, key := range keys {
			if ok && impl.CountOf(sum, key) != impl.CountOf(a, key)+impl.CountOf(b, key) {
				t.Fatalf("UpdateCounts(%q, %q) = %q", write(a), write(b), write(sum))
			}
		}
		if !ok {
			return
		}
		back, ok := impl.SubtractCounts(sum, b)
		if !ok || !impl.SameCounts(back, a) || !slices.Equal(keysOf(back), keys) {
			t.Fatalf("SubtractCounts of UpdateCounts(%q, %q) = %q, %v", write(a), write(b), write(back), ok)
		}
		for _, key := range impl.LessKeys(back, a) {
			if counted(back, key) != 0 {
				t.Fatalf("SubtractCounts of UpdateCounts(%q, %q) = %q", write(a), write(b), write(back))
			}
		}
	})
}

func TestP31WhatLiesOverHasJoinedKeys(t *testing.T) {
	eachPair(orders(), func(a, b []impl.Item) {
		keys := impl.JoinKeys(a, b)
		out, ok := impl.OverItems(a, b)
		if ok != (len(keys) <= impl.MaxItems) || ok && !slices.Equal(keysOf(out), keys) {
			t.Fatalf("OverItems(%q, %q) = %q, %v, and JoinKeys = %q", write(a), write(b), write(out), ok, keys)
		}
		for _, key := range keys {
			n := counted(b, key)
			if !has(b, key) {
				n = counted(a, key)
			}
			if got, there := impl.GetItem(out, key); ok && (got != n || !there) {
				t.Fatalf("OverItems(%q, %q) = %q", write(a), write(b), write(out))
			}
		}
	})
}

func TestP85StepsCanBeCut(t *testing.T) {
	for _, steps := range manySteps() {
		for n := range len(steps) + 1 {
			if !impl.ValidSteps(steps[:n]) {
				t.Fatalf("ValidSteps(%v) = false", steps[:n])
			}
		}
		rest := slices.DeleteFunc(slices.Clone(steps), func(step impl.Step) bool { return !changeNothing(step) })
		if !impl.ValidSteps(rest) {
			t.Fatalf("ValidSteps(%v) = false", rest)
		}
	}
}

func TestP86WalksSeeAllItems(t *testing.T) {
	for _, list := range append(orders(), read(aToH)) {
		out, ok := impl.WalkItems(list, walkSteps(len(list)+2))
		expectAnswers(t, out, ok, strings.TrimSpace(write(list)+" . ."), "WalkItems of %q", write(list))
	}
}

func TestP87OtherWalksDoNotMatter(t *testing.T) {
	lists := stepLists("", "o n0 n1 n2", 6, "n2 n0 n1 n0 n0")
	for _, start := range fewLists {
		for _, steps := range lists {
			items, ok := impl.WalkItems(read(start), steps)
			order, fine := impl.WalkOrder(read(start), steps)
			if !ok || !fine || !slices.Equal(items, order) {
				t.Fatalf("of %q, %v WalkItems = %q, WalkOrder = %q", start, steps, writeAnswers(items), writeAnswers(order))
			}
			for cursor := range impl.MaxCursors {
				alone := 0
				for i, at := range cursorsOf(steps) {
					if at != cursor || items[i].Kind == impl.AnNone {
						continue
					}
					alone++
					own, _ := impl.WalkItems(read(start), walkSteps(alone))
					if items[i] != own[alone-1] {
						t.Fatalf("WalkItems(%q, %v) = %q, and alone %q", start, steps, writeAnswers(items), writeAnswers(own))
					}
				}
			}
		}
	}
}

func TestP88WhatHasEndedOrIsBrokenStaysSo(t *testing.T) {
	lists := itemSteps()
	for _, start := range fewLists {
		for _, steps := range lists {
			out, ok := impl.WalkItems(read(start), steps)
			stays, cursors := map[int]int{}, cursorsOf(steps)
			for i, answer := range answered(t, "WalkItems", out, ok) {
				cursor := cursors[i]
				if kind := stays[cursor]; kind != 0 && answer.Kind != kind {
					t.Fatalf("WalkItems(%q, %v) = %q", start, steps, writeAnswers(out))
				}
				if answer.Kind == impl.AnEnd || answer.Kind == impl.AnChanged {
					stays[cursor] = answer.Kind
				}
			}
		}
	}
}

func TestP89RidersSeeAllThatStays(t *testing.T) {
	for _, list := range append(orders(), read(aToH)) {
		out, ok := impl.WalkOrder(list, walkSteps(len(list)+2))
		expectAnswers(t, out, ok, strings.TrimSpace(write(list)+" . ."), "WalkOrder of %q", write(list))
	}
	lists := itemSteps()
	for _, start := range fewLists {
		for _, steps := range lists {
			out, ok := impl.WalkOrder(read(start), steps)
			answered(t, "WalkOrder", out, ok)
			list, left := read(start), out
			for _, step := range steps {
				if step.Kind != impl.StNext {
					list = changed(list, step)
					continue
				}
				answer := left[0]
				left = left[1:]
				if answer.Kind == impl.AnItem && !slices.Contains(list, impl.Item{Key: answer.Key, N: answer.N}) {
					t.Fatalf("WalkOrder(%q, %v) = %q, and %q is there", start, steps, writeAnswers(out), write(list))
				}
			}
		}
	}
}

// changed returns items after a step, by the functions that the step tells.
func changed(list []impl.Item, step impl.Step) []impl.Item {
	var out []impl.Item
	ok := false
	switch step.Kind {
	case impl.StPut:
		out, ok = impl.PutItem(list, step.Key, step.A)
	case impl.StDrop:
		out, ok = impl.DropItem(list, step.Key)
	case impl.StMove:
		out, ok = impl.MoveItem(list, step.Key, step.A == 1)
	}
	if !ok {
		return list
	}
	return out
}

func TestP90WalksOverDequesSeeAllNumbers(t *testing.T) {
	for _, d := range deques() {
		size := len(d.Items)
		for n := range size + 2 {
			out, ok := impl.WalkDeque(d, walkSteps(n))
			want := strings.Fields(joined(d.Items) + " . .")[:n]
			expectAnswers(t, out, ok, strings.Join(want, " "), "WalkDeque(%q), %d times", writeDeque(d), n)
			if _, possible := impl.PushBack(d, 5); !possible {
				continue
			}
			steps := append(walkSteps(n), readSteps("o p5 n0 n1 n0 o n2")...)
			out, ok = impl.WalkDeque(d, steps)
			pushed, _ := impl.PushBack(d, 5)
			first := strings.Fields(joined(pushed.Items) + " .")[0]
			want = append(want, "!", "!", "!", first)
			expectAnswers(t, out, ok, strings.Join(want, " "), "WalkDeque(%q), with a push after %d", writeDeque(d), n)
		}
	}
}

// joined returns the text of numbers.
func joined(list []int) string {
	words := make([]impl.Answer, len(list))
	for i, n := range list {
		words[i] = impl.Answer{Kind: impl.AnItem, N: n}
	}
	return writeAnswers(words)
}

func TestP91WalksByIndicesSeeWhatComes(t *testing.T) {
	for _, list := range numberLists() {
		size := len(list)
		out, ok := impl.WalkList(list, walkSteps(size+2))
		expectAnswers(t, out, ok, strings.TrimSpace(joined(list)+" . ."), "WalkList(%v)", list)
		if size == impl.MaxDeque {
			continue
		}
		for n := range size + 1 {
			steps := slices.Concat(walkSteps(n), readSteps("p77"), walkSteps(size - n + 3)[1:])
			out, ok := impl.WalkList(list, steps)
			expectAnswers(t, out, ok, strings.TrimSpace(joined(list)+" 77 . ."), "WalkList(%v) with one pushed after %d", list, n)
		}
	}
}

func TestP92ListsAndDequesAreWalkedAlike(t *testing.T) {
	lists := stepLists("o n0", "o n0 n1 n2 s0:5 s1:6 s9:7 +a:1", 4, "n0 n1 n0 n1 n2 n0 n1 n0")
	for _, start := range fewNumbers {
		d := readDeque(start)
		for _, steps := range lists {
			deque, ok := impl.WalkDeque(d, steps)
			list, fine := impl.WalkList(d.Items, steps)
			if !ok || !fine || !slices.Equal(deque, list) {
				t.Fatalf("of %q, %v WalkDeque = %q, WalkList = %q", start, steps, writeAnswers(deque), writeAnswers(list))
			}
		}
	}
}

// within returns those of the keys of a list that another list has, for there true, or does not have, without the program's own functions.
func within(a, b []impl.Item, there bool) []string {
	return slices.DeleteFunc(keysOf(a), func(key string) bool { return has(b, key) != there })
}

// sameSet reports whether two lists have the same keys, each once, in whatever order.
func sameSet(a, b []string) bool {
	x, y := slices.Sorted(slices.Values(a)), slices.Sorted(slices.Values(b))
	return slices.Equal(x, y) && len(slices.Compact(x)) == len(a)
}

func TestP93KeysOfBothAreKeysOfEach(t *testing.T) {
	eachPair(orders(), func(a, b []impl.Item) {
		keys := impl.MeetKeys(a, b)
		if !slices.Equal(keys, within(a, b, true)) || !sameSet(keys, impl.MeetKeys(b, a)) {
			t.Fatalf("MeetKeys(%q, %q) = %q", write(a), write(b), keys)
		}
		if impl.ApartKeys(a, b) != (len(keys) == 0) || impl.ApartKeys(b, a) != (len(keys) == 0) {
			t.Fatalf("ApartKeys(%q, %q) = %v", write(a), write(b), impl.ApartKeys(a, b))
		}
	})
}

func TestP94KeysOfOneAreOfTheFirstOneOrOfTheSecondOneAlone(t *testing.T) {
	eachPair(orders(), func(a, b []impl.Item) {
		keys, less := impl.JoinKeys(a, b), impl.LessKeys(b, a)
		if !slices.Equal(keys, slices.Concat(keysOf(a), less)) || !slices.Equal(less, within(b, a, false)) {
			t.Fatalf("of %q and %q JoinKeys = %q, LessKeys of the second ones = %q", write(a), write(b), keys, less)
		}
	})
}

func TestP95KeysOfBothAndOfOneAloneAreAll(t *testing.T) {
	eachPair(orders(), func(a, b []impl.Item) {
		meet, less := impl.MeetKeys(a, b), impl.LessKeys(a, b)
		if len(meet)+len(less) != len(a) || !sameSet(slices.Concat(meet, less), keysOf(a)) {
			t.Fatalf("of %q and %q MeetKeys = %q, LessKeys = %q", write(a), write(b), meet, less)
		}
	})
}

func TestP96OddKeysAreThoseOfOneAlone(t *testing.T) {
	eachPair(orders(), func(a, b []impl.Item) {
		odd := impl.OddKeys(a, b)
		if !sameSet(slices.Concat(odd, impl.MeetKeys(a, b)), impl.JoinKeys(a, b)) {
			t.Fatalf("OddKeys(%q, %q) = %q", write(a), write(b), odd)
		}
		if !slices.Equal(odd, slices.Concat(impl.LessKeys(a, b), impl.LessKeys(b, a))) {
			t.Fatalf("OddKeys(%q, %q) = %q", write(a), write(b), odd)
		}
	})
}

func TestP97ApartListsLieOverEachOtherInAnyOrder(t *testing.T) {
	seen := 0
	eachPair(append(orders(), read("q:1 r:-2"), read("p:0")), func(a, b []impl.Item) {
		over, ok := impl.OverItems(a, b)
		turned, also := impl.OverItems(b, a)
		if !impl.ApartKeys(a, b) || !ok || !also {
			return
		}
		seen++
		if !impl.SameItems(over, turned) || len(over) != len(a)+len(b) || !slices.Equal(keysOf(over), keysOf(a, b)) {
			t.Fatalf("OverItems of %q and %q = %q, the other way round %q", write(a), write(b), write(over), write(turned))
		}
	})
	if seen < 100 {
		t.Errorf("just %d lists are apart", seen)
	}
}

func TestP98ItemsOfBothHaveOneNumber(t *testing.T) {
	eachPair(orders(), func(a, b []impl.Item) {
		meet := impl.MeetItems(a, b)
		for _, item := range a {
			if slices.Contains(meet, item) != slices.Contains(b, item) {
				t.Fatalf("MeetItems(%q, %q) = %q", write(a), write(b), write(meet))
			}
		}
		if !slices.Equal(meet, slices.DeleteFunc(slices.Clone(a), func(item impl.Item) bool { return !slices.Contains(meet, item) })) {
			t.Fatalf("MeetItems(%q, %q) = %q", write(a), write(b), write(meet))
		}
		for _, list := range [][]impl.Item{a, b} {
			if over, ok := impl.OverItems(list, meet); !ok || !slices.Equal(over, list) {
				t.Fatalf("MeetItems of %q and %q over %q = %q, %v", write(a), write(b), write(list), write(over), ok)
			}
		}
	})
}

// groups returns the groups that promises are tried on: all of up to 2 of some, and longer ones.
func groups() [][]impl.Group {
	var lists [][]impl.Group
	parts := []string{"", "a()", "a(x)", "a(a b a)", "b(x y)", "b()", "c(x)", "abcd(abcd z)"}
	for _, first := range parts {
		for _, second := range parts {
			if list := readGroups(first + " " + second); first == "" || second == "" || list[0].Key != list[1].Key {
				lists = append(lists, list)
			}
		}
	}
	for _, s := range []string{mixedGroups, fullGroups, fullGroup("a"), fullGroup("b") + " " + fullGroup("a") + " c()", "h(a) g(b c) f() e(d) d(e) c() b(f g) a(h)", "c(z) d() a(b a) e(q)", "a(aa) aa(a) aaa(aaaa)", "i(x) j(y) k() l(z) m() n() o() p()"} {
		lists = append(lists, readGroups(s))
	}
	return lists
}

// textsOf returns the texts of the group of a key, and whether there is one.
func textsOf(list []impl.Group, key string) ([]string, bool) {
	for _, group := range list {
		if group.Key == key {
			return group.Texts, true
		}
	}
	return nil, false
}

// sized returns the sizes of groups without the program's own GroupSizes.
func sized(list []impl.Group) []impl.Item {
	var sizes []impl.Item
	for _, group := range list {
		sizes = append(sizes, impl.Item{Key: group.Key, N: len(group.Texts)})
	}
	return sizes
}

func TestP99GroupsCanBeCut(t *testing.T) {
	for _, list := range groups() {
		for n := range len(list) + 1 {
			if !impl.ValidGroups(list[:n]) {
				t.Errorf("ValidGroups(%q) = false", writeGroups(list[:n]))
			}
		}
	}
}

func TestP100TouchedGroupsAreThere(t *testing.T) {
	for _, list := range groups() {
		for _, key := range withOthers(keysOf(sized(list))) {
			out, texts, ok := impl.TouchGroup(list, key)
			had, there := textsOf(list, key)
			if ok != (impl.ValidItems([]impl.Item{{Key: key}}) && (there || len(list) < impl.MaxItems)) {
				t.Fatalf("TouchGroup(%q, %q) = %q, %v", writeGroups(list), key, writeGroups(out), ok)
			}
			if !ok {
				continue
			}
			want := writeGroups(list)
			if !there {
				want = strings.TrimSpace(want + " " + key + "()")
			}
			if now, there := textsOf(out, key); !there || !slices.Equal(now, had) || !slices.Equal(texts, had) || writeGroups(out) != want {
				t.Fatalf("TouchGroup(%q, %q) = %q, %q", writeGroups(list), key, writeGroups(out), texts)
			}
			again, same, ok := impl.TouchGroup(out, key)
			if !ok || writeGroups(again) != writeGroups(out) || !slices.Equal(same, texts) {
				t.Fatalf("TouchGroup(%q, %q) once more = %q, %q, %v", writeGroups(list), key, writeGroups(again), same, ok)
			}
		}
	}
}

func TestP101AddedTextsAreTheLastOnes(t *testing.T) {
	for _, list := range groups() {
		for _, key := range withOthers(keysOf(sized(list))) {
			touched, texts, possible := impl.TouchGroup(list, key)
			out, ok := impl.AddToGroup(list, key, "last")
			if ok != (possible && len(texts) < impl.MaxTexts) {
				t.Fatalf("AddToGroup(%q, %q) = %q, %v", writeGroups(list), key, writeGroups(out), ok)
			}
			if !ok {
				continue
			}
			again, now, ok := impl.TouchGroup(out, key)
			if !ok || !slices.Equal(now, append(slices.Clone(texts), "last")) || writeGroups(again) != writeGroups(out) {
				t.Fatalf("TouchGroup after AddToGroup(%q, %q) gives %q, %v", writeGroups(list), key, now, ok)
			}
			for _, group := range touched {
				if other, _ := textsOf(out, group.Key); group.Key != key && !slices.Equal(other, group.Texts) {
					t.Fatalf("AddToGroup(%q, %q) = %q", writeGroups(list), key, writeGroups(out))
				}
			}
		}
	}
}

func TestP102SizesAreCounts(t *testing.T) {
	for _, list := range groups() {
		sizes := impl.GroupSizes(list)
		total := 0
		for _, group := range list {
			total += len(group.Texts)
		}
		if !impl.ValidItems(sizes) || !slices.Equal(sizes, sized(list)) || impl.TotalCount(sizes) != total {
			t.Errorf("GroupSizes(%q) = %q", writeGroups(list), write(sizes))
		}
	}
}

func TestP103SizesOfMergedGroupsAddUp(t *testing.T) {
	for _, a := range groups() {
		for _, b := range groups() {
			out, ok := impl.MergeGroups(a, b)
			sizes, valid := impl.UpdateCounts(impl.GroupSizes(a), impl.GroupSizes(b))
			if ok != (valid && !slices.ContainsFunc(sizes, func(item impl.Item) bool { return item.N > impl.MaxTexts })) {
				t.Fatalf("MergeGroups(%q, %q) = %q, %v", writeGroups(a), writeGroups(b), writeGroups(out), ok)
			}
			if !ok {
				continue
			}
			if !slices.Equal(impl.GroupSizes(out), sizes) {
				t.Fatalf("MergeGroups(%q, %q) = %q", writeGroups(a), writeGroups(b), writeGroups(out))
			}
			for _, group := range out {
				first, _ := textsOf(a, group.Key)
				second, _ := textsOf(b, group.Key)
				if !slices.Equal(group.Texts, slices.Concat(first, second)) {
					t.Fatalf("MergeGroups(%q, %q) = %q", writeGroups(a), writeGroups(b), writeGroups(out))
				}
			}
		}
		for _, nothing := range [][]impl.Group{nil, {}} {
			behind, ok := impl.MergeGroups(a, nothing)
			expectGroups(t, behind, ok, writeGroups(a), "MergeGroups(%q) with nothing", writeGroups(a))
			ahead, ok := impl.MergeGroups(nothing, a)
			expectGroups(t, ahead, ok, writeGroups(a), "MergeGroups of nothing with %q", writeGroups(a))
		}
	}
}

func TestP104LettersGroupTexts(t *testing.T) {
	lists := append(textLists(), strings.Fields("ab b a ba"), strings.Fields("z zz y zzz yy z x"), strings.Fields("h g f e d c b a ah bh"), strings.Fields("with wit wi w"))
	for _, texts := range lists {
		out, ok := impl.GroupLetters(texts)
		if !ok || !impl.ValidGroups(out) || impl.TotalCount(impl.GroupSizes(out)) != len(texts) {
			t.Fatalf("GroupLetters(%q) = %q, %v", texts, writeGroups(out), ok)
		}
		var letters []string
		for _, text := range texts {
			if !slices.Contains(letters, text[:1]) {
				letters = append(letters, text[:1])
			}
		}
		if !slices.Equal(keysOf(impl.GroupSizes(out)), letters) {
			t.Fatalf("GroupLetters(%q) = %q", texts, writeGroups(out))
		}
		for _, group := range out {
			want := slices.DeleteFunc(slices.Clone(texts), func(text string) bool { return text[:1] != group.Key })
			if !slices.Equal(group.Texts, want) {
				t.Fatalf("GroupLetters(%q) = %q", texts, writeGroups(out))
			}
		}
	}
}

func TestP105EachLineHasAnAnswer(t *testing.T) {
	lines := []string{"add a:1 with a:1", "", "chain {", "cache 1 a", "what\n", "count a\nb", "less a:2 with a:1", "\n\n", "add a:1 with\n", "cache 2 a b", "chain {a:1}", "over", "over  with ", "meet a:1 with a:2", "add\na:1", "cache \n", " ", "count a b a", "chain " + wideChain, "help me"}
	if len(lines) != impl.MaxDesk {
		t.Fatalf("%d lines", len(lines))
	}
	all := impl.RunDesk(lines)
	single := ""
	for n := range len(lines) + 1 {
		out := impl.RunDesk(lines[:n])
		if strings.Count(out, "\n") != n || !strings.HasPrefix(all, out) || out != single {
			t.Errorf("RunDesk(%q) = %q", lines[:n], out)
		}
		if n < len(lines) {
			single += impl.RunDesk(lines[n : n+1])
		}
	}
}

func TestP106DesksDoWhatTheFunctionsDo(t *testing.T) {
	words := map[string]pairCall{"add": impl.AddCounts, "less": impl.LessCounts, "over": impl.OverItems, "meet": func(a, b []impl.Item) ([]impl.Item, bool) { return impl.MeetCounts(a, b), true }}
	eachPair(samples(), func(a, b []impl.Item) {
		for word, f := range words {
			want := "wrong\n"
			if list, ok := f(a, b); ok {
				want = "[" + impl.ItemsText(list) + "]\n"
			}
			line := word + " " + impl.ItemsText(a) + " with " + impl.ItemsText(b)
			if out := impl.RunDesk([]string{line}); out != want {
				t.Fatalf("RunDesk of %q = %q, want %q", line, out, want)
			}
		}
	})
	for _, c := range chains() {
		line := "chain " + impl.ChainText(c)
		if out := impl.RunDesk([]string{line}); out != "["+write(impl.ChainItems(c))+"]\n" {
			t.Fatalf("RunDesk of %q = %q", line, out)
		}
	}
	for _, texts := range textLists()[1:] {
		list, _ := impl.CountTexts(texts)
		line := "count " + strings.Join(texts, " ")
		if out := impl.RunDesk([]string{line}); out != "["+write(impl.MostCommon(list, -1))+"]\n" {
			t.Fatalf("RunDesk of %q = %q", line, out)
		}
	}
	for _, texts := range textLists() {
		for most := 1; most <= impl.MaxItems; most++ {
			c := run(t, impl.Cache{Most: most}, texts)
			line := strings.TrimSpace("cache " + joined([]int{most}) + " " + strings.Join(texts, " "))
			if out := impl.RunDesk([]string{line}); out != "["+write(c.Items)+"] "+joined([]int{c.Hits, c.Misses})+"\n" {
				t.Fatalf("RunDesk of %q = %q", line, out)
			}
		}
	}
}
