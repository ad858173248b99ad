package pool

// row is things one behind the other.
type row[T any] []T

// has tells whether i is a place of the row.
func (r row[T]) has(i int) bool {
	return i >= 0 && i < len(r)
}

// cut tells r without what stands at a place of it, and what stood behind there one place ahead.
func cut[T any](r row[T], at int) row[T] {
	last := len(r) - 1
	copy(r[at:], r[at+1:])
	clear(r[last:]) // what lies behind the end would be kept for nothing
	return r[:last]
}
