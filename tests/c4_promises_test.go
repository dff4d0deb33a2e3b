package tests

import (
	"cmp"
	"slices"
	"testing"

	"loop.example/tallychains/impl"
)

// numberLists returns the lists of numbers that promises are tried on: all of up to 3 of -1, 0 and 2, and longer ones up to as many as a deque has.
func numberLists() [][]int {
	lists := [][]int{nil}
	for i := 0; i < len(lists) && len(lists[i]) < 3; i++ {
		for _, x := range []int{-1, 0, 2} {
			lists = append(lists, append(slices.Clone(lists[i]), x))
		}
	}
	for _, s := range []string{"5 6 7 6", "6 7 6 5", "1 2 3 4 5", "2 2 2 2 2 2", "9999 -9999 9999 0 -1 1 2", "1 2 3 4 5 6 7 8", "8 7 6 5 4 3 2 1 0", "1 2 3 4 5 6 7 8 9", oneToTen, tenToOne, limitTen, "0 0 0 0 0 0 0 0 0 0", "2 -1 2 -1 2 -1 2 -1 2 -1"} {
		lists = append(lists, readNumbers(s))
	}
	return lists
}

// deques returns the deques that promises are tried on: the number lists without a limit, and with each one that has room for them.
func deques() []impl.Deque {
	var deques []impl.Deque
	for _, list := range numberLists() {
		deques = append(deques, impl.Deque{Items: list, Most: -1})
		for most := len(list); most <= impl.MaxDeque; most++ {
			deques = append(deques, impl.Deque{Items: list, Most: most})
		}
	}
	return deques
}

// someNumbers are numbers that deques may have, and may not.
var someNumbers = []int{-9999, -1, 0, 1, 2, 5, 6, 9999}

func sameDeque(a, b impl.Deque) bool {
	return slices.Equal(a.Items, b.Items) && a.Most == b.Most
}

// is checks that a deque that is made is the one that is wanted; what tells of the call of d.
func is(t *testing.T, what string, d, out, want impl.Deque) {
	t.Helper()
	if !impl.ValidDeque(out) || !sameDeque(out, want) {
		t.Fatalf("%s of %q = %q, want %q", what, writeDeque(d), writeDeque(out), writeDeque(want))
	}
}

// must returns the deque of a call of d that must succeed.
func must(t *testing.T, what string, d, out impl.Deque, ok bool) impl.Deque {
	t.Helper()
	if !ok || !impl.ValidDeque(out) {
		t.Fatalf("%s of %q = %q, %v", what, writeDeque(d), writeDeque(out), ok)
	}
	return out
}

// room returns how many more numbers a deque can have before one goes, or there are too many.
func room(d impl.Deque) int {
	if d.Most == -1 {
		return impl.MaxDeque - len(d.Items)
	}
	return d.Most - len(d.Items)
}

// lastOf returns numbers with a limit, just the last ones if there are more.
func lastOf(list []int, most int) impl.Deque {
	if most != -1 && len(list) > most {
		list = list[len(list)-most:]
	}
	return impl.Deque{Items: list, Most: most}
}

// backward returns numbers from the last one to the first one, without the program's own TurnDeque.
func backward(list []int) []int {
	turned := slices.Clone(list)
	slices.Reverse(turned)
	return turned
}

func TestP63DequesCanBeCut(t *testing.T) {
	for _, d := range deques() {
		if !impl.ValidDeque(d) {
			t.Fatalf("ValidDeque(%q) = false", writeDeque(d))
		}
		for n := range d.Items {
			front, back := impl.Deque{Items: d.Items[n+1:], Most: d.Most}, impl.Deque{Items: d.Items[:n], Most: d.Most}
			if !impl.ValidDeque(front) || !impl.ValidDeque(back) {
				t.Fatalf("%q is not valid without %d numbers", writeDeque(d), n+1)
			}
		}
	}
}

func TestP64PushedNumbersArePopped(t *testing.T) {
	for _, d := range deques() {
		for _, x := range someNumbers {
			out, ok := impl.PushBack(d, x)
			if ok != (d.Most != -1 || room(d) > 0) {
				t.Fatalf("PushBack(%q, %d) = %q, %v", writeDeque(d), x, writeDeque(out), ok)
			}
			if !ok || d.Most == 0 {
				continue
			}
			popped, last, ok := impl.PopBack(out)
			must(t, "PopBack after PushBack", d, popped, ok)
			if last != x {
				t.Fatalf("PopBack after PushBack(%q, %d) gives %d", writeDeque(d), x, last)
			}
			if room(d) > 0 {
				is(t, "PopBack after PushBack", d, popped, d)
			} else {
				is(t, "PopBack after PushBack", d, popped, impl.Deque{Items: d.Items[1:], Most: d.Most})
			}
		}
	}
}

func TestP65PushingInFrontIsPushingBehindTurned(t *testing.T) {
	for _, d := range deques() {
		for _, x := range someNumbers {
			turned, want := impl.PushBack(impl.TurnDeque(d), x)
			out, ok := impl.PushFront(d, x)
			if ok != want {
				t.Fatalf("PushFront(%q, %d) = %q, %v", writeDeque(d), x, writeDeque(out), ok)
			}
			if ok {
				is(t, "PushFront", d, out, impl.TurnDeque(turned))
			}
		}
	}
}

func TestP66NumbersArePushedOneByOne(t *testing.T) {
	for _, d := range deques() {
		for _, list := range numberLists() {
			out, ok := impl.ExtendBack(d, list)
			if ok != (d.Most != -1 || room(d) >= len(list)) {
				t.Fatalf("ExtendBack(%q, %v) = %q, %v", writeDeque(d), list, writeDeque(out), ok)
			}
			if !ok {
				continue
			}
			pushed := d
			for _, x := range list {
				next, ok := impl.PushBack(pushed, x)
				pushed = must(t, "PushBack", pushed, next, ok)
			}
			is(t, "ExtendBack", d, out, pushed)
			is(t, "ExtendBack", d, out, lastOf(slices.Concat(d.Items, list), d.Most))
		}
	}
}

func TestP67NumbersArePushedInFrontOneByOne(t *testing.T) {
	for _, d := range deques() {
		for _, list := range numberLists() {
			turned, want := impl.ExtendBack(impl.TurnDeque(d), list)
			out, ok := impl.ExtendFront(d, list)
			if ok != want {
				t.Fatalf("ExtendFront(%q, %v) = %q, %v", writeDeque(d), list, writeDeque(out), ok)
			}
			if !ok {
				continue
			}
			is(t, "ExtendFront", d, out, impl.TurnDeque(turned))
			pushed := d
			for _, x := range list {
				next, ok := impl.PushFront(pushed, x)
				pushed = must(t, "PushFront", pushed, next, ok)
			}
			is(t, "ExtendFront", d, out, pushed)
		}
	}
}

func TestP68PoppedNumbersArePushedBack(t *testing.T) {
	for _, d := range deques() {
		out, x, ok := impl.PopBack(d)
		if ok != (len(d.Items) > 0) {
			t.Fatalf("PopBack(%q) = %q, %v", writeDeque(d), writeDeque(out), ok)
		}
		if ok {
			back, ok := impl.PushBack(out, x)
			is(t, "PushBack of PopBack", d, must(t, "PushBack", out, back, ok), d)
		}
	}
}

func TestP69PoppingInFrontIsPoppingBehindTurned(t *testing.T) {
	for _, d := range deques() {
		turned, last, want := impl.PopBack(impl.TurnDeque(d))
		out, first, ok := impl.PopFront(d)
		if ok != want || first != last {
			t.Fatalf("PopFront(%q) = %q, %d, %v", writeDeque(d), writeDeque(out), first, ok)
		}
		if ok {
			is(t, "PopFront", d, out, impl.TurnDeque(turned))
			back, ok := impl.PushFront(out, first)
			is(t, "PushFront of PopFront", d, must(t, "PushFront", out, back, ok), d)
		}
	}
}

func TestP70RotationsAddUp(t *testing.T) {
	for _, d := range deques() {
		size := len(d.Items)
		is(t, "RotateDeque by 0", d, impl.RotateDeque(d, 0), d)
		if size > 0 {
			put := slices.Concat(d.Items[size-1:], d.Items[:size-1])
			is(t, "RotateDeque by 1", d, impl.RotateDeque(d, 1), impl.Deque{Items: put, Most: d.Most})
		}
		for n := -23; n <= 23; n++ {
			out := impl.RotateDeque(d, n)
			is(t, "RotateDeque and back", d, impl.RotateDeque(out, -n), d)
			is(t, "RotateDeque by its length, too", d, impl.RotateDeque(d, n+size), out)
			is(t, "RotateDeque by one more", d, impl.RotateDeque(d, n+1), impl.RotateDeque(out, 1))
			for _, m := range []int{-11, -4, -1, 2, 3, 10} {
				is(t, "RotateDeque by a sum", d, impl.RotateDeque(d, n+m), impl.RotateDeque(out, m))
			}
		}
	}
}

func TestP71TurnedRoundRotationsGoTheOtherWay(t *testing.T) {
	for _, d := range deques() {
		for n := -23; n <= 23; n++ {
			is(t, "TurnDeque of RotateDeque", d, impl.TurnDeque(impl.RotateDeque(d, n)), impl.RotateDeque(impl.TurnDeque(d), -n))
		}
	}
}

func TestP72TurnedTwiceIsAsBefore(t *testing.T) {
	for _, d := range deques() {
		turned := impl.TurnDeque(d)
		is(t, "TurnDeque", d, turned, impl.Deque{Items: backward(d.Items), Most: d.Most})
		is(t, "TurnDeque of TurnDeque", d, impl.TurnDeque(turned), d)
		first, some := impl.GetAt(turned, 0)
		last, there := impl.GetAt(d, -1)
		if first != last || some != there {
			t.Fatalf("GetAt of the first number of %q turned = %d, %v, want %d, %v", writeDeque(d), first, some, last, there)
		}
	}
}

func TestP73PlacesFromBothEndsAreOne(t *testing.T) {
	for _, d := range deques() {
		size := len(d.Items)
		for k := -25; k <= 25; k++ {
			x, ok := impl.GetAt(d, k)
			if ok != (-size <= k && k < size) {
				t.Fatalf("GetAt(%q, %d) = %d, %v", writeDeque(d), k, x, ok)
			}
			if !ok || k < 0 {
				continue
			}
			y, there := impl.GetAt(d, k-size)
			if x != d.Items[k] || y != x || !there {
				t.Fatalf("of %q GetAt %d = %d, and GetAt %d = %d, %v", writeDeque(d), k, x, k-size, y, there)
			}
		}
	}
}

func TestP74SetNumbersAreGot(t *testing.T) {
	for _, d := range deques() {
		size := len(d.Items)
		for k := -size - 1; k <= size; k++ {
			out, ok := impl.SetAt(d, k, 77)
			if ok != (-size <= k && k < size) {
				t.Fatalf("SetAt(%q, %d) = %q, %v", writeDeque(d), k, writeDeque(out), ok)
			}
			if !ok {
				continue
			}
			if x, there := impl.GetAt(out, k); x != 77 || !there {
				t.Fatalf("GetAt after SetAt(%q, %d) = %d, %v", writeDeque(d), k, x, there)
			}
			old, _ := impl.GetAt(d, k)
			back, ok := impl.SetAt(out, k, old)
			is(t, "SetAt back", d, must(t, "SetAt", out, back, ok), d)
			for other := range size {
				if other != (k+size)%size && out.Items[other] != d.Items[other] {
					t.Fatalf("SetAt(%q, %d) = %q", writeDeque(d), k, writeDeque(out))
				}
			}
		}
	}
}

func TestP75DeletedNumbersAreInsertedAgain(t *testing.T) {
	for _, d := range deques() {
		size := len(d.Items)
		for k := -size - 1; k <= size; k++ {
			x, there := impl.GetAt(d, k)
			out, ok := impl.DeleteAt(d, k)
			if ok != there {
				t.Fatalf("DeleteAt(%q, %d) = %q, %v", writeDeque(d), k, writeDeque(out), ok)
			}
			if !ok {
				continue
			}
			at := (k + size) % size
			back, ok := impl.InsertAt(out, at, x)
			is(t, "InsertAt after DeleteAt", d, must(t, "InsertAt", out, back, ok), d)
			is(t, "DeleteAt", d, out, impl.Deque{Items: slices.Concat(d.Items[:at], d.Items[at+1:]), Most: d.Most})
		}
	}
}

func TestP76InsertedNumbersAreThere(t *testing.T) {
	for _, d := range deques() {
		size := len(d.Items)
		for k := -size - 2; k <= size+2; k++ {
			out, ok := impl.InsertAt(d, k, 77)
			if ok != (room(d) > 0) {
				t.Fatalf("InsertAt(%q, %d) = %q, %v", writeDeque(d), k, writeDeque(out), ok)
			}
			if !ok {
				continue
			}
			at := min(k, size)
			if k < 0 {
				at = max(k+size, 0)
			}
			if x, there := impl.GetAt(out, at); x != 77 || !there {
				t.Fatalf("InsertAt(%q, %d) = %q", writeDeque(d), k, writeDeque(out))
			}
			back, ok := impl.DeleteAt(out, at)
			is(t, "DeleteAt after InsertAt", d, must(t, "DeleteAt", out, back, ok), d)
			if at == 0 {
				pushed, _ := impl.PushFront(d, 77)
				is(t, "InsertAt in front", d, out, pushed)
			}
			if at == size {
				pushed, _ := impl.PushBack(d, 77)
				is(t, "InsertAt behind", d, out, pushed)
			}
		}
	}
}

func TestP77TheFirstPlaceOfANumberIsFound(t *testing.T) {
	for _, d := range deques() {
		size := len(d.Items)
		for _, x := range someNumbers {
			if at := impl.IndexIn(d, x, 0, size); at != slices.Index(d.Items, x) || (at == -1) != (impl.CountIn(d, x) == 0) {
				t.Fatalf("IndexIn(%q, %d) = %d", writeDeque(d), x, at)
			}
			for from := -size - 2; from <= size+2; from++ {
				for to := -size - 2; to <= size+2; to++ {
					if at := impl.IndexIn(d, x, from, to); at != indexBetween(d.Items, x, from, to) {
						t.Fatalf("IndexIn(%q, %d, %d, %d) = %d", writeDeque(d), x, from, to, at)
					}
				}
			}
		}
	}
}

// indexBetween is IndexIn by the places alone: each one is asked whether it is within both bounds.
func indexBetween(list []int, x, from, to int) int {
	for at, y := range list {
		fromHere := at >= from && from >= 0 || from < 0 && at-len(list) >= from
		beforeTo := at < to && to >= 0 || to < 0 && at-len(list) < to
		if y == x && fromHere && beforeTo {
			return at
		}
	}
	return -1
}

func TestP78OneNumberIsRemoved(t *testing.T) {
	for _, d := range deques() {
		size := len(d.Items)
		for _, x := range someNumbers {
			at := impl.IndexIn(d, x, 0, size)
			out, ok := impl.RemoveFirst(d, x)
			if ok != (at >= 0) {
				t.Fatalf("RemoveFirst(%q, %d) = %q, %v", writeDeque(d), x, writeDeque(out), ok)
			}
			if !ok {
				continue
			}
			is(t, "RemoveFirst", d, out, impl.Deque{Items: slices.Concat(d.Items[:at], d.Items[at+1:]), Most: d.Most})
			if impl.CountIn(out, x) != impl.CountIn(d, x)-1 {
				t.Fatalf("CountIn after RemoveFirst(%q, %d) = %d", writeDeque(d), x, impl.CountIn(out, x))
			}
			if next := impl.IndexIn(out, x, 0, size); next != -1 && next < at {
				t.Fatalf("IndexIn after RemoveFirst(%q, %d) = %d, and before %d", writeDeque(d), x, next, at)
			}
		}
	}
}

func TestP79NumbersAreCountedInAnyOrder(t *testing.T) {
	for _, d := range deques() {
		for _, x := range someNumbers {
			count := impl.CountIn(d, x)
			if turned := impl.CountIn(impl.TurnDeque(d), x); turned != count {
				t.Fatalf("CountIn(%q, %d) = %d, and turned %d", writeDeque(d), x, count, turned)
			}
			for _, n := range []int{-11, -1, 1, 2, 5, 99} {
				if rotated := impl.CountIn(impl.RotateDeque(d, n), x); rotated != count {
					t.Fatalf("CountIn(%q, %d) = %d, and rotated by %d %d", writeDeque(d), x, count, n, rotated)
				}
			}
			if room(d) < len(d.Items) {
				continue
			}
			out, ok := impl.RepeatDeque(d, 2)
			if twice := impl.CountIn(must(t, "RepeatDeque", d, out, ok), x); twice != 2*count {
				t.Fatalf("CountIn(%q, %d) = %d, and repeated %d", writeDeque(d), x, count, twice)
			}
		}
	}
}

func TestP80LimitsKeepTheLastNumbers(t *testing.T) {
	for _, d := range deques() {
		for most := -1; most <= impl.MaxDeque; most++ {
			out, ok := impl.WithMost(d, most)
			is(t, "WithMost", d, must(t, "WithMost", d, out, ok), lastOf(d.Items, most))
		}
		unlimited, _ := impl.WithMost(d, -1)
		back, ok := impl.WithMost(unlimited, d.Most)
		is(t, "WithMost back", d, must(t, "WithMost", unlimited, back, ok), d)
	}
}

func TestP81AddedDequesAreOneBehindTheOther(t *testing.T) {
	all := deques()
	for _, a := range all {
		for _, most := range []int{-1, 0, 10} {
			out, ok := impl.AddDeques(a, impl.Deque{Most: most})
			is(t, "AddDeques with nothing", a, must(t, "AddDeques", a, out, ok), a)
		}
		for _, b := range all {
			out, ok := impl.AddDeques(a, b)
			if ok != (a.Most != -1 || room(a) >= len(b.Items)) {
				t.Fatalf("AddDeques(%q, %q) = %q, %v", writeDeque(a), writeDeque(b), writeDeque(out), ok)
			}
			if ok {
				is(t, "AddDeques", a, out, lastOf(slices.Concat(a.Items, b.Items), a.Most))
			}
		}
	}
}

func TestP82RepeatedDequesAreAdded(t *testing.T) {
	for _, d := range deques() {
		once, ok := impl.RepeatDeque(d, 1)
		is(t, "RepeatDeque once", d, must(t, "RepeatDeque", d, once, ok), d)
		for n := range impl.MaxDeque + 1 {
			out, ok := impl.RepeatDeque(d, n)
			if ok != (d.Most != -1 || n*len(d.Items) <= impl.MaxDeque) {
				t.Fatalf("RepeatDeque(%q, %d) = %q, %v", writeDeque(d), n, writeDeque(out), ok)
			}
			if !ok {
				continue
			}
			is(t, "RepeatDeque", d, out, lastOf(slices.Repeat(d.Items, n), d.Most))
			if n == impl.MaxDeque {
				continue
			}
			more, ok := impl.RepeatDeque(d, n+1)
			added, want := impl.AddDeques(out, d)
			if ok != want || !sameDeque(more, added) {
				t.Fatalf("RepeatDeque(%q, %d) = %q, %v, want %q, %v", writeDeque(d), n+1, writeDeque(more), ok, writeDeque(added), want)
			}
		}
	}
}

// sign returns the order of two deques that are compared.
func sign(t *testing.T, a, b impl.Deque) int {
	t.Helper()
	x, ok := impl.CompareDeques(a, b)
	if !ok || x < -1 || x > 1 {
		t.Fatalf("CompareDeques(%q, %q) = %d, %v", writeDeque(a), writeDeque(b), x, ok)
	}
	return x
}

func TestP83ComparingTurnsRound(t *testing.T) {
	all := deques()
	for _, a := range all {
		if x := sign(t, a, a); x != 0 {
			t.Fatalf("CompareDeques of %q and itself = %d", writeDeque(a), x)
		}
		for _, number := range someNumbers {
			unlimited, _ := impl.WithMost(a, -1)
			if more, ok := impl.PushBack(unlimited, number); ok && sign(t, a, more) != -1 {
				t.Fatalf("CompareDeques of %q and one number more is not -1", writeDeque(a))
			}
		}
		for _, b := range all {
			x := sign(t, a, b)
			if x != -sign(t, b, a) || x != slices.Compare(a.Items, b.Items) || (x == 0) != slices.Equal(a.Items, b.Items) {
				t.Fatalf("CompareDeques(%q, %q) = %d, turned round %d", writeDeque(a), writeDeque(b), x, sign(t, b, a))
			}
		}
	}
	// All deques of one number are in the order of their numbers.
	for _, x := range someNumbers {
		for _, y := range someNumbers {
			a, b := impl.Deque{Items: []int{x}, Most: 1}, impl.Deque{Items: []int{y}, Most: -1}
			if sign(t, a, b) != cmp.Compare(x, y) {
				t.Fatalf("CompareDeques of %d and %d = %d", x, y, sign(t, a, b))
			}
		}
	}
}

func TestP84WindowsMoveOnByOne(t *testing.T) {
	for _, d := range deques() {
		for k := 1; k <= impl.MaxDeque; k++ {
			sums := impl.WindowSums(d, k)
			if len(sums) != max(len(d.Items)-k+1, 0) {
				t.Fatalf("WindowSums(%q, %d) = %v", writeDeque(d), k, sums)
			}
			if len(sums) == 0 {
				continue
			}
			first := 0
			for _, x := range d.Items[:k] {
				first += x
			}
			if sums[0] != first {
				t.Fatalf("WindowSums(%q, %d) = %v", writeDeque(d), k, sums)
			}
			for i := 1; i < len(sums); i++ {
				if sums[i]-sums[i-1] != d.Items[i+k-1]-d.Items[i-1] {
					t.Fatalf("WindowSums(%q, %d) = %v", writeDeque(d), k, sums)
				}
			}
		}
	}
}
