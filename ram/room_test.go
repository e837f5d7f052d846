package ram_test

import (
	"strconv"
	"testing"

	"icehouse/api"
)

// named is the keys of several, from one number to another.
func named(name string, from, to int) []string {
	var l []string
	for i := from; i < to; i++ {
		l = append(l, name+strconv.Itoa(i))
	}
	return l
}

// page is as many items of the class as have room in a page.
func page(t *testing.T, name string, class int, seq uint64) []api.Item {
	t.Helper()
	return several(t, name, chunks[class], min(sizes[class], 500), seq)
}

// one is an item of the class.
func one(t *testing.T, key string, class int, seq uint64) api.Item {
	t.Helper()
	return charged(t, key, min(sizes[class], 500), seq)
}

// P13.2: as long as there is room nothing is put out: pages that are free are taken by each class.
func TestRoomThere(t *testing.T) {
	for class := range sizes {
		for pages := 1; pages <= 8; pages++ {
			w := of(t, pages)
			for i := range pages {
				for _, x := range page(t, string(rune('a'+i)), (class+i)%len(sizes), 1) {
					w.puts(t, x)
				}
			}
			w.same(t)
			w.puts(t, one(t, "x", class, 1), "a0")
			w.same(t)
		}
	}
}

// P13.2: the oldest item of the class is put out, even if those of all other classes, lesser and greater ones, are older.
func TestRoomOwnClass(t *testing.T) {
	for class, n := range chunks {
		w := of(t, len(sizes))
		for step := range sizes { // its own class comes last
			other := (class + 1 + step) % len(sizes)
			for _, x := range page(t, string(rune('A'+other)), other, 1) {
				w.puts(t, x)
			}
		}
		w.same(t)
		for i := range n {
			w.puts(t, one(t, "n"+strconv.Itoa(i), class, 2), string(rune('A'+class))+strconv.Itoa(i))
		}
		w.same(t)
		for i := range n {
			w.puts(t, one(t, "m"+strconv.Itoa(i), class, 3), "n"+strconv.Itoa(i))
		}
		w.same(t)
	}
}

// P13.2: if the class has no item, those of the least class that has some are put out, from the oldest on, until a page is free; whatever class it is, and whichever page is the older one.
func TestRoomLeastClass(t *testing.T) {
	for class, n := range chunks {
		for a := range sizes {
			for b := range sizes {
				if a == b || a == class || b == class {
					continue
				}
				w := of(t, 2, append(page(t, "a", a, 1), page(t, "b", b, 50)...)...)
				least := named("a", 0, chunks[a])
				if b < a {
					least = named("b", 0, chunks[b])
				}
				w.puts(t, one(t, "n0", class, 100), least...)
				w.same(t)
				for i := 1; i < n; i++ {
					w.puts(t, one(t, "n"+strconv.Itoa(i), class, 100))
				}
				w.puts(t, one(t, "n"+strconv.Itoa(n), class, 100), "n0")
				w.same(t)
			}
		}
	}
}

// P13.2: one class behind the other gives way, always the least; and those that were touched last go last.
func TestRoomSteps(t *testing.T) {
	w := of(t, 3, one(t, "r", 7, 1))
	for _, x := range append(page(t, "q", 3, 10), page(t, "p", 1, 20)...) {
		w.puts(t, x)
	}
	w.gets(t, "p0")
	w.gets(t, "p7")
	w.gets(t, "p3")
	w.peeks(t, "p1")
	w.cleans(t, "p2")
	w.puts(t, one(t, "n0", 5, 40), "p1", "p2", "p4", "p5", "p6", "p8", "p9", "p10", "p11", "p12", "p13", "p14", "p15", "p0", "p7", "p3")
	w.has(t, "q6", "q5", "q4", "q3", "q2", "q1", "q0", "n0", "r")
	w.puts(t, one(t, "n1", 5, 41))
	w.puts(t, one(t, "n2", 5, 42))
	w.puts(t, one(t, "n3", 5, 43), "n0")
	w.puts(t, one(t, "z", 0, 44), named("q", 0, 7)...)
	w.has(t, "z", "n3", "n2", "n1", "r")
	w.puts(t, one(t, "s", 7, 45), "r")
	w.puts(t, one(t, "y", 2, 46), "z")
	w.puts(t, one(t, "x", 4, 47), "y")
	w.puts(t, one(t, "v", 6, 48), "x")
	w.has(t, "n3", "n2", "n1", "v", "s")
	w.puts(t, one(t, "u", 1, 49), "n1", "n2", "n3")
	w.has(t, "u", "v", "s")
	w.same(t)
}

// P13.2: as many go as are needed: of a class that has a page with one, two, three and more items.
func TestRoomFewItems(t *testing.T) {
	for class := range sizes {
		for other := range sizes {
			if other == class {
				continue
			}
			for n := 1; n <= chunks[other]; n++ {
				w := of(t, 1, page(t, "k", other, 1)[:n]...)
				w.puts(t, one(t, "x", class, 99), named("k", 0, n)...)
				w.has(t, "x")
			}
		}
	}
}

// P13.2: the oldest ones go wherever they lie: those of two pages by turns, until one of both is free; the rest of the other one's room is there.
func TestRoomTwoPages(t *testing.T) {
	for class, n := range chunks[:7] {
		w := of(t, 2, append(page(t, "a", class, 1), page(t, "b", class, 50)...)...)
		var out []string
		for i := range n {
			w.gets(t, "a"+strconv.Itoa(i))
			w.gets(t, "b"+strconv.Itoa(i))
			out = append(out, "a"+strconv.Itoa(i), "b"+strconv.Itoa(i))
		}
		last := out[2*n-1]
		w.puts(t, one(t, "x", 7, 99), out[:2*n-1]...) // behind the last a its page is free
		w.same(t)
		w.has(t, last, "x")
		for i := range n - 1 {
			w.puts(t, one(t, "c"+strconv.Itoa(i), class, 100))
		}
		w.puts(t, one(t, "d", class, 101), last)
		w.same(t)
	}
}

// P13.2: an item goes to the first page of its class that has room, so that others stay free, or become so.
func TestRoomFirstPage(t *testing.T) {
	w := of(t, 3, item("a", 400, 1), item("b", 400, 2), item("c", 400, 3), item("d", 400, 4), item("e", 400, 5))
	w.removes(t, "a")
	w.removes(t, "c")
	w.puts(t, item("f", 400, 6)) // with b
	w.removes(t, "d")            // the second page is free
	w.puts(t, item("g", 500, 7))
	w.puts(t, item("h", 400, 8)) // with e
	w.has(t, "h", "f", "e", "b", "g")
	w.removes(t, "b")
	w.puts(t, item("i", 500, 9), "g")
	w.puts(t, item("j", 400, 10)) // with f
	w.puts(t, item("k", 0, 11), "e", "f", "h")
	w.has(t, "k", "j", "i")
	w.same(t)
}

// P13.2, P13.3: what was removed leaves its room: nothing is put out for the next one of its class, or, if the page is free, of any class.
func TestRoomOfRemoved(t *testing.T) {
	for class, n := range chunks {
		for other := range sizes {
			w := of(t, 1, page(t, "k", class, 1)...)
			for i := range n {
				key := "k" + strconv.Itoa((i*5+1)%n)
				w.removes(t, key)
				w.puts(t, one(t, "x", class, 99))
				w.removes(t, "x")
				w.puts(t, one(t, key, class, 99))
			}
			for i := range n {
				w.removes(t, "k"+strconv.Itoa(i))
			}
			for _, x := range page(t, "y", other, 1) {
				w.puts(t, x)
			}
			w.same(t)
		}
	}
}

// P13.2: what is put out is told whole, and is not there any more; it can be put once more.
func TestPutOutWhole(t *testing.T) {
	w := of(t, 1, item("a", 400, 1), item("b", 401, 2))
	w.cleans(t, "b")
	w.puts(t, item("c", 402, 3), "a") // held against all that was put, in put
	w.misses(t, []byte("a"))
	w.puts(t, item("d", 403, 4), "b")
	w.misses(t, []byte("b"))
	w.puts(t, item("a", 404, 5), "c")
	w.puts(t, item("c", 8, 6), "d", "a")
	w.has(t, "c")
	w.same(t)
}

// P13.5: an item that may be always finds room, whatever is there: each charge in memories that are full of each class.
func TestAlwaysRoom(t *testing.T) {
	for pages := 1; pages <= 2; pages++ {
		for class, n := range chunks {
			for charge := 26; charge <= 537; charge++ {
				w := of(t, pages, several(t, "k", pages*n, min(sizes[class], 500), 1)...)
				w.put(t, charged(t, "x", charge, 99))
				w.peeks(t, "x")
				w.tells(t)
			}
		}
	}
}
