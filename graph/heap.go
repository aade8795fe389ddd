package graph

// heap is numbers of which the least is taken first.
type heap []int

// push puts a number in.
func (h *heap) push(v int) {
	l := append(*h, v)
	i := len(l) - 1
	for i > 0 && l[(i-1)/2] > l[i] {
		up := (i - 1) / 2
		l[up], l[i] = l[i], l[up]
		i = up
	}
	*h = l
}

// pop takes the least number out; there must be one.
func (h *heap) pop() int {
	l := *h
	least, last := l[0], len(l)-1
	l[0] = l[last]
	l = l[:last:last]
	i := 0
	for {
		low := i
		for _, kid := range [...]int{2*i + 1, 2*i + 2} {
			if kid < last && l[kid] < l[low] {
				low = kid
			}
		}
		if low == i {
			*h = l
			return least
		}
		l[low], l[i] = l[i], l[low]
		i = low
	}
}
