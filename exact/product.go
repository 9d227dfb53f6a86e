package exact

import "sync"

// Long factors are cut into parts of so many limbs, and multiplied side by side; below that, goroutines cost more than they save.
const (
	partSize   = 16
	sideBySide = 2 * partSize
)

// Times returns a multiplied by other numbers.
func (a Int) Times(others ...Int) Int {
	for _, b := range others {
		a = signed(a.with(b.sign), multiply(nil, a.limbs, b.limbs))
	}
	return a
}

// multiply returns the product of a and b in the memory of room, if this is large enough. Neither of them may lie in room.
func multiply(room, a, b []limb) []limb {
	size := len(a) + len(b)
	if cap(room) < size {
		room = make([]limb, size)
	}
	room = room[:size]
	clear(room)
	if min(len(a), len(b)) < sideBySide {
		addProduct(room, a, b)
	} else {
		addParts(room, a, b)
	}
	return trim(room)
}

// addProduct makes the zeros of room the product of a and b.
func addProduct(room, a, b []limb) {
	for i, x := range a {
		row := room[i : i+len(b)+1 : i+len(b)+1]
		var carry uint64
		for j, y := range b {
			total := uint64(x)*uint64(y) + uint64(row[j]) + carry
			carry = total / radix
			row[j] = limb(total % radix)
		}
		row[len(b)] = limb(carry)
	}
}

// A piece is the product of a part of a number, which begins at a limb of it.
type piece struct {
	at    int
	limbs []limb
}

// addParts makes the zeros of room the product of a and b, the parts of a side by side. A sum does not depend on which part is ready first.
func addParts(room, a, b []limb) {
	pieces := make(chan piece, (len(a)+partSize-1)/partSize)
	var group sync.WaitGroup
	for at := 0; at < len(a); at += partSize {
		end := min(at+partSize, len(a))
		part := a[at:end:end]
		group.Add(1)
		go func() {
			defer group.Done()
			limbs := make([]limb, len(part)+len(b))
			addProduct(limbs, part, b)
			pieces <- piece{at, limbs}
		}()
	}
	group.Wait()
	close(pieces)
	for p := range pieces {
		addAt(room[p.at:], p.limbs)
	}
}

// addAt adds the limbs to the low end of room, which has space for what is carried on.
func addAt(room, limbs []limb) {
	var on limb
	for i := range room {
		if i >= len(limbs) && on == 0 {
			return
		}
		var part limb
		if i < len(limbs) {
			part = limbs[i]
		}
		room[i], on = room[i].plus(part, on)
	}
}
