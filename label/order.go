package label

import (
	"slices"
	"strings"

	"graft/api"
)

// Compare orders labels by their bases.
func Compare(a, b api.Label) int {
	if a == b {
		return 0
	}
	if order := compareHashes(a.Hash, b.Hash); order != 0 {
		return order
	}
	return strings.Compare(a.Name, b.Name)
}

// compareHashes orders hashes as their digits are ordered: a hash's last byte makes its first digits,
// and the digits of base 32 rise with their values.
func compareHashes(a, b api.Hash) int {
	for i := len(a) - 1; i >= 0; i-- {
		if a[i] < b[i] {
			return -1
		}
		if a[i] > b[i] {
			return 1
		}
	}
	return 0
}

// Sort is labels in order, none twice.
func Sort(l []api.Label) []api.Label {
	sorted := make([]api.Label, len(l))
	copy(sorted, l)
	slices.SortFunc(sorted, Compare)
	return slices.Compact(sorted)
}
