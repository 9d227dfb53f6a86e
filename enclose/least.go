package enclose

// An ordered type has a comparison: below 0 if a number is less than another one, 0 if it is as great, and otherwise above 0.
type ordered[T any] interface{ Compare(other T) int }

// least returns the least of some numbers.
func least[T ordered[T]](first T, others ...T) T {
	for _, x := range others {
		if x.Compare(first) < 0 {
			first = x
		}
	}
	return first
}

// greatest returns the greatest of some numbers.
func greatest[T ordered[T]](first T, others ...T) T {
	for _, x := range others {
		if x.Compare(first) > 0 {
			first = x
		}
	}
	return first
}
