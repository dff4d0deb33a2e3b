package tests

import (
	"slices"
	"strings"
	"testing"

	"loop.example/tallychains/impl"
)

// The models walk in other ways than the program does: over a log in which dropped items leave their place, over a list by the keys of its riders, and over plain numbers.

// logged is an item in the log of all that came.
type logged struct {
	item impl.Item
	gone bool
}

// itemsModel is WalkItems over a log. A cursor is its place in the log, the number of items when it was opened, and what it stays at, if at anything.
type itemsModel struct {
	log     []logged
	cursors []struct {
		place, size int
		stays       string
	}
}

func (m *itemsModel) size() int {
	size := 0
	for _, entry := range m.log {
		if !entry.gone {
			size++
		}
	}
	return size
}

func (m *itemsModel) open() {
	m.cursors = append(m.cursors, struct {
		place, size int
		stays       string
	}{0, m.size(), ""})
}

func (m *itemsModel) next(k int) string {
	c := &m.cursors[k]
	if c.stays == "" && m.size() != c.size {
		c.stays = "!"
	}
	for c.stays == "" && c.place < len(m.log) {
		c.place++
		if entry := m.log[c.place-1]; !entry.gone {
			return write([]impl.Item{entry.item})
		}
	}
	if c.stays == "" {
		c.stays = "."
	}
	return c.stays
}

func (m *itemsModel) change(step impl.Step) {
	at := slices.IndexFunc(m.log, func(entry logged) bool { return entry.item.Key == step.Key && !entry.gone })
	switch {
	case step.Kind == impl.StPut && at >= 0:
		m.log[at].item.N = step.A
	case step.Kind == impl.StPut && m.size() < 8:
		m.log = append(m.log, logged{item: impl.Item{Key: step.Key, N: step.A}})
	case step.Kind == impl.StDrop && at >= 0:
		m.log[at].gone = true
	}
}

// orderModel is WalkOrder over a list. A rider is the key that it is at, or "" behind all items.
type orderModel struct {
	list   []impl.Item
	riders []string
}

// keyAt returns the key at a place of the list, or "" behind all items.
func (m *orderModel) keyAt(place int) string {
	if place < len(m.list) {
		return m.list[place].Key
	}
	return ""
}

func (m *orderModel) open() {
	m.riders = append(m.riders, m.keyAt(0))
}

func (m *orderModel) next(k int) string {
	place := slices.Index(keysOf(m.list), m.riders[k])
	if place < 0 {
		return "."
	}
	m.riders[k] = m.keyAt(place + 1)
	return write(m.list[place : place+1])
}

func (m *orderModel) change(step impl.Step) {
	place := slices.Index(keysOf(m.list), step.Key)
	if place < 0 {
		if step.Kind == impl.StPut && len(m.list) < 8 {
			m.list = append(m.list, impl.Item{Key: step.Key, N: step.A})
		}
		return
	}
	item, rest := m.list[place], without(m.list, step.Key)
	switch {
	case step.Kind == impl.StPut:
		m.list[place].N = step.A
	case step.Kind == impl.StDrop:
		for k, key := range m.riders {
			if key == step.Key {
				m.riders[k] = m.keyAt(place + 1)
			}
		}
		m.list = rest
	case step.Kind == impl.StMove && step.A == 1:
		m.list = append(rest, item)
	case step.Kind == impl.StMove:
		m.list = append([]impl.Item{item}, rest...)
	}
}

// numbersModel is WalkDeque, or WalkList for breaks false, over plain numbers. A cursor is the text of what it stays at, if at anything, and its place.
type numbersModel struct {
	list    []int
	most    int
	breaks  bool
	cursors []struct {
		place int
		stays string
	}
}

func (m *numbersModel) open() {
	m.cursors = append(m.cursors, struct {
		place int
		stays string
	}{})
}

func (m *numbersModel) next(k int) string {
	c := &m.cursors[k]
	if c.stays == "" && c.place < len(m.list) {
		c.place++
		return writeAnswers([]impl.Answer{{Kind: impl.AnItem, N: m.list[c.place-1]}})
	}
	if c.stays == "" {
		c.stays = "."
	}
	return c.stays
}

func (m *numbersModel) change(step impl.Step) {
	switch {
	case step.Kind == impl.StPush && (m.most >= 0 || len(m.list) < 10):
		m.list = append(m.list, step.A)
		if m.most >= 0 && len(m.list) > m.most {
			m.list = m.list[1:]
		}
	case step.Kind == impl.StPop && len(m.list) > 0:
		m.list = m.list[1:]
	case step.Kind == impl.StSet && step.A < len(m.list):
		m.list[step.A] = step.B
		return
	default:
		return
	}
	for k := range m.cursors {
		if m.breaks {
			m.cursors[k].stays = "!"
		}
	}
}

type model interface {
	open()
	next(k int) string
	change(step impl.Step)
}

// modelled returns the answers of a model.
func modelled(m model, steps []impl.Step) string {
	opened := 0
	var words []string
	for _, step := range steps {
		switch {
		case step.Kind == impl.StOpen && opened < 3:
			m.open()
			opened++
		case step.Kind == impl.StOpen:
		case step.Kind != impl.StNext:
			m.change(step)
		case step.A >= opened:
			words = append(words, "?")
		default:
			words = append(words, m.next(step.A))
		}
	}
	return strings.Join(words, " ")
}

// stepLists returns steps: some at first, then all n that some words can make, and some at last.
func stepLists(first, words string, n int, last string) [][]impl.Step {
	lists := [][]impl.Step{readSteps(first)}
	for range n {
		var longer [][]impl.Step
		for _, list := range lists {
			for _, step := range readSteps(words) {
				longer = append(longer, append(slices.Clip(list), step))
			}
		}
		lists = longer
	}
	for i, list := range lists {
		lists[i] = append(list, readSteps(last)...)
	}
	return lists
}

// itemSteps are steps over items, which come in all orders between a cursor that is begun and cursors that go on to their ends.
func itemSteps() [][]impl.Step {
	return stepLists("o n0", "o n0 n1 -a +a:7 -b +b:8 +d:4 >a >b <b <c", 4, "n0 n1 n0 n1 n0 n1 n0 n0 n0")
}

// numberSteps are steps over numbers, as itemSteps are over items.
func numberSteps() [][]impl.Step {
	return stepLists("o n0", "o n0 n1 p7 p1 q s0:5 s2:6", 5, "n0 n1 n0 n1 n0 n1 n0 n0 n0")
}

// fewLists and fewNumbers are where the walks with many steps begin.
var (
	fewLists   = []string{"", "a:1", "a:1 b:2 c:3", "c:3 b:2 a:1", "x:1 y:2 z:3 w:4 v:5 b:6 c:7 u:8"}
	fewNumbers = []string{"of -1", "1 of -1", "1 2 3 of -1", oneToTen + " of -1", "of 0", "1 1 of 2", "1 2 3 of 3", "1 2 of 10"}
)

func TestItemsAreWalkedAsModelled(t *testing.T) {
	lists := itemSteps()
	for _, start := range fewLists {
		for _, steps := range lists {
			items := &itemsModel{}
			for _, item := range read(start) {
				items.log = append(items.log, logged{item: item})
			}
			want := modelled(items, steps)
			if out, ok := impl.WalkItems(read(start), steps); !ok || writeAnswers(out) != want {
				t.Fatalf("WalkItems(%q, %v) = %q, %v, want %q", start, steps, writeAnswers(out), ok, want)
			}
			want = modelled(&orderModel{list: read(start)}, steps)
			if out, ok := impl.WalkOrder(read(start), steps); !ok || writeAnswers(out) != want {
				t.Fatalf("WalkOrder(%q, %v) = %q, %v, want %q", start, steps, writeAnswers(out), ok, want)
			}
		}
	}
}

func TestNumbersAreWalkedAsModelled(t *testing.T) {
	lists := numberSteps()
	for _, start := range fewNumbers {
		d := readDeque(start)
		for _, steps := range lists {
			want := modelled(&numbersModel{list: slices.Clone(d.Items), most: d.Most, breaks: true}, steps)
			if out, ok := impl.WalkDeque(d, steps); !ok || writeAnswers(out) != want {
				t.Fatalf("WalkDeque(%q, %v) = %q, %v, want %q", start, steps, writeAnswers(out), ok, want)
			}
			want = modelled(&numbersModel{list: slices.Clone(d.Items), most: -1}, steps)
			if out, ok := impl.WalkList(d.Items, steps); !ok || writeAnswers(out) != want {
				t.Fatalf("WalkList(%q, %v) = %q, %v, want %q", start, steps, writeAnswers(out), ok, want)
			}
		}
	}
}
