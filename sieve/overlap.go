package sieve

import "graft/api"

// Overlap is the number of the first hit whose place lies less than a width behind that of the hit ahead of it, or -1.
func Overlap(hits []api.Hit, width int) int {
	for i := 1; i < len(hits); i++ {
		if nearer(hits[i-1].At, hits[i].At, width) {
			return i
		}
	}
	return -1
}

// nearer says whether to - from is below a width. The difference of two ints may need 65 bits: so its sign and its size are looked at one by one, and the size alone is a number without a sign.
func nearer(from, to, width int) bool {
	if from <= to {
		return width > 0 && uint64(to)-uint64(from) < uint64(width)
	}
	return width >= 0 || uint64(from)-uint64(to) > -uint64(width)
}
