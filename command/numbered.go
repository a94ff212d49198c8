package command

import "iter"

// numbered is values with the numbers 1, 2 and so on, which are forgotten in this order.
type numbered[T any] struct {
	forgotten int // how many: the first ones
	values    []T // the others
}

// last returns the number of the last value, even if it is forgotten.
func (l *numbered[T]) last() int {
	return l.forgotten + len(l.values)
}

// add adds a value, with the next number.
func (l *numbered[T]) add(x T) {
	l.values = append(l.values, x)
}

// all yields the values that are not forgotten, with their numbers.
func (l *numbered[T]) all() iter.Seq2[int, T] {
	return func(yield func(number int, x T) bool) {
		for i, x := range l.values {
			if !yield(l.forgotten+1+i, x) {
				return
			}
		}
	}
}

// value returns the value with a number, if there is one that is not forgotten. It goes through no more values than the caller may then forget, so many calls take no longer than there were values.
func (l *numbered[T]) value(number int) (x T, ok bool) {
	if number > l.last() {
		return x, false
	}
	for n, x := range l.all() {
		if n >= number {
			return x, n == number
		}
	}
	return x, false
}

// forget forgets the values up to the one with a number, which must not be forgotten yet, or be the last one.
func (l *numbered[T]) forget(number int) {
	l.values = l.values[number-l.forgotten:]
	l.forgotten = number
}
