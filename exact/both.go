package exact

import "sync"

// sideBySideDigits is how many digits two ratios have to have for their products to be computed side by side; below that, goroutines cost more than they save.
const sideBySideDigits = 800

// pairing returns a way to get what two functions return: at once if the ratios are long, otherwise one after the other.
func pairing(a, b Ratio) func(first, second func() Int) (Int, Int) {
	if len(a.Num)+len(a.Den)+len(b.Num)+len(b.Den) < sideBySideDigits {
		return inTurn
	}
	return atOnce
}

func inTurn(first, second func() Int) (Int, Int) {
	value := first()
	return value, second()
}

// A half is what one of two functions returns.
type half struct {
	at    int
	value Int
}

func atOnce(first, second func() Int) (Int, Int) {
	halves := make(chan half, 2)
	var group sync.WaitGroup
	for at, work := range [...]func() Int{first, second} {
		group.Add(1)
		go func() {
			defer group.Done()
			halves <- half{at, work()}
		}()
	}
	group.Wait()
	close(halves)
	var values [2]Int
	for h := range halves {
		values[h.at] = h.value
	}
	return values[0], values[1]
}
