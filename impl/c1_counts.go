package impl

import (
	"cmp"
	"slices"
	"strconv"
	"strings"
)

// MaxKey is the largest number of letters of a key.
const MaxKey = 4

// MaxNumber is the greatest number of an item.
const MaxNumber = 9999

// MaxItems is the largest number of items.
const MaxItems = 8

// MaxTexts is the largest number of texts that are counted.
const MaxTexts = 40

// Item is a key with a number.
type Item struct {
	Key string
	N   int
}

// tally is counts by their keys. A map has no order, so that of the keys stands beside it.
type tally struct {
	order  []string
	counts map[string]int
}

func newTally() *tally {
	return &tally{counts: map[string]int{}}
}

// sumOf returns a tally of a and, times over, b.
func sumOf(a []Item, b []Item, times int) *tally {
	t := newTally()
	t.sum(a, b, times)
	return t
}

// sum counts a and, times over, b. What was counted before goes, so that one tally serves sum after sum.
func (t *tally) sum(a []Item, b []Item, times int) {
	t.order = nil
	clear(t.counts)
	for _, item := range a {
		t.add(item.Key, item.N)
	}
	for _, item := range b {
		t.add(item.Key, item.N*times)
	}
}

// add adds n to the count of a key, which also at 0 is one of the keys then.
func (t *tally) add(key string, n int) {
	if _, known := t.counts[key]; !known {
		t.order = append(t.order, key)
	}
	t.counts[key] += n
}

// keep deletes all counts that are not wanted.
func (t *tally) keep(wanted func(n int) bool) {
	kept := make([]string, 0, len(t.order))
	for _, key := range t.order {
		if wanted(t.counts[key]) {
			kept = append(kept, key)
		} else {
			delete(t.counts, key)
		}
	}
	t.order = kept
}

// positive sums up as sum does, and returns the items that are greater than 0.
func (t *tally) positive(a []Item, b []Item, times int) []Item {
	t.sum(a, b, times)
	t.keep(isPositive)
	return t.items()
}

func (t *tally) items() []Item {
	list := make([]Item, 0, len(t.order))
	for _, key := range t.order {
		list = append(list, Item{Key: key, N: t.counts[key]})
	}
	return list
}

// total ranges over the map itself: a sum is the same in any order.
func (t *tally) total() int {
	sum := 0
	for _, n := range t.counts {
		sum += n
	}
	return sum
}

func isPositive(n int) bool {
	return n > 0
}

func isNotZero(n int) bool {
	return n != 0
}

func isNumber(n int) bool {
	return -MaxNumber <= n && n <= MaxNumber
}

func isKey(s string) bool {
	if len(s) < 1 || len(s) > MaxKey {
		return false
	}
	for i := range len(s) {
		if s[i] < 'a' || s[i] > 'z' {
			return false
		}
	}
	return true
}

// ValidItems reports whether items are valid.
func ValidItems(list []Item) bool {
	if len(list) > MaxItems {
		return false
	}
	seen := map[string]bool{}
	for _, item := range list {
		if !isKey(item.Key) || !isNumber(item.N) || seen[item.Key] {
			return false
		}
		seen[item.Key] = true
	}
	return true
}

func bothValid(a []Item, b []Item) bool {
	return ValidItems(a) && ValidItems(b)
}

// checked returns items that were made, unless they are not valid.
func checked(list []Item) ([]Item, bool) {
	if !ValidItems(list) {
		return nil, false
	}
	return list, true
}

// CountOf returns the count of a key.
func CountOf(list []Item, key string) int {
	if !ValidItems(list) {
		return 0
	}
	return sumOf(list, nil, 1).counts[key]
}

// CountTexts returns the counts of texts.
func CountTexts(list []string) ([]Item, bool) {
	if len(list) > MaxTexts {
		return nil, false
	}
	t := newTally()
	for _, text := range list {
		t.add(text, 1)
	}
	// A text that is no key makes an item that is not valid.
	return checked(t.items())
}

// UpdateCounts returns counts with others added.
func UpdateCounts(a []Item, b []Item) ([]Item, bool) {
	if !bothValid(a, b) {
		return nil, false
	}
	return checked(sumOf(a, b, 1).items())
}

// SubtractCounts returns counts with others taken away.
func SubtractCounts(a []Item, b []Item) ([]Item, bool) {
	if !bothValid(a, b) {
		return nil, false
	}
	return checked(sumOf(a, b, -1).items())
}

// AddCounts returns the counts of two lists together that are greater than 0.
func AddCounts(a []Item, b []Item) ([]Item, bool) {
	if !bothValid(a, b) {
		return nil, false
	}
	return checked(newTally().positive(a, b, 1))
}

// LessCounts returns the counts of a list without those of another one that are greater than 0.
func LessCounts(a []Item, b []Item) ([]Item, bool) {
	if !bothValid(a, b) {
		return nil, false
	}
	return checked(newTally().positive(a, b, -1))
}

// MeetCounts returns the smaller counts of two lists: the smaller count of a key is the first one less what it has above the second one.
func MeetCounts(a []Item, b []Item) []Item {
	if !bothValid(a, b) {
		return nil
	}
	t := newTally()
	above := t.positive(a, b, -1)
	return t.positive(a, above, -1)
}

// JoinCounts returns the greater counts of two lists: the greater count of a key is the first one and what the second one has above it.
func JoinCounts(a []Item, b []Item) ([]Item, bool) {
	if !bothValid(a, b) {
		return nil, false
	}
	t := newTally()
	above := t.positive(b, a, -1)
	return checked(t.positive(a, above, 1))
}

// KeepCounts returns the counts that are greater than 0.
func KeepCounts(list []Item) []Item {
	if !ValidItems(list) {
		return nil
	}
	return newTally().positive(list, nil, 1)
}

// TurnCounts returns the counts that are less than 0 with the other sign.
func TurnCounts(list []Item) []Item {
	if !ValidItems(list) {
		return nil
	}
	return newTally().positive(nil, list, -1)
}

// DropZero returns the counts that are not 0.
func DropZero(list []Item) []Item {
	if !ValidItems(list) {
		return nil
	}
	t := sumOf(list, nil, 1)
	t.keep(isNotZero)
	return t.items()
}

// ScaleCounts returns counts times a number.
func ScaleCounts(list []Item, n int) ([]Item, bool) {
	if !ValidItems(list) || !isNumber(n) {
		return nil, false
	}
	return checked(sumOf(nil, list, n).items())
}

// TotalCount returns the sum of counts.
func TotalCount(list []Item) int {
	if !ValidItems(list) {
		return 0
	}
	return sumOf(list, nil, 1).total()
}

// Elements returns each key as often as its count tells.
func Elements(list []Item) ([]string, bool) {
	if !ValidItems(list) {
		return nil, false
	}
	var texts []string
	for _, item := range list {
		if len(texts)+item.N > MaxTexts {
			return nil, false
		}
		for range item.N {
			texts = append(texts, item.Key)
		}
	}
	return texts, true
}

// MostCommon returns the greatest counts.
func MostCommon(list []Item, n int) []Item {
	if !ValidItems(list) {
		return nil
	}
	sorted := slices.Clone(list)
	slices.SortStableFunc(sorted, func(x, y Item) int {
		return cmp.Compare(y.N, x.N)
	})
	if n < 0 || n > len(sorted) {
		n = len(sorted)
	}
	return sorted[:n]
}

// WithinCounts reports whether no count of a list is greater than that of another one.
func WithinCounts(a []Item, b []Item) bool {
	return bothValid(a, b) && len(newTally().positive(a, b, -1)) == 0
}

// SameCounts reports whether two lists have the same counts.
func SameCounts(a []Item, b []Item) bool {
	if !bothValid(a, b) {
		return false
	}
	t := sumOf(a, b, -1)
	t.keep(isNotZero)
	return len(t.counts) == 0
}

// textOf returns the text of items, however many they are.
func textOf(list []Item) string {
	parts := make([]string, 0, len(list))
	for _, item := range list {
		parts = append(parts, item.Key+":"+strconv.Itoa(item.N))
	}
	return strings.Join(parts, " ")
}

// ItemsText returns the text of items.
func ItemsText(list []Item) string {
	if !ValidItems(list) {
		return ""
	}
	return textOf(list)
}

// ParseItems returns the items of a text.
func ParseItems(s string) ([]Item, bool) {
	if s == "" {
		return nil, true
	}
	var list []Item
	for _, part := range strings.SplitN(s, " ", MaxItems+1) {
		key, digits, _ := strings.Cut(part, ":")
		n, err := strconv.Atoi(digits)
		if err != nil {
			return nil, false
		}
		list = append(list, Item{Key: key, N: n})
	}
	// The text of what was read tells it all: it is "" for items that are not valid, and other than s for numbers like +1, 01 or -0.
	if ItemsText(list) != s {
		return nil, false
	}
	return list, true
}
