package press

import (
	"cmp"
	"slices"
)

// lengthsOf makes lengths of words, at most so long, of how often each symbol comes.
func lengthsOf(counts []int, most int) []uint8 {
	counts = slices.Clone(counts)
	for {
		lengths := depthsOf(counts)
		if int(slices.Max(lengths)) <= most {
			return lengths
		}
		for symbol, n := range counts {
			counts[symbol] = (n + 1) / 2
		}
	}
}

// A tree is a symbol, or two trees put under one.
type tree struct {
	weight int
	above  int // its parent's place
	depth  uint8
}

// depthsOf is how deep each symbol with a count comes to lie when the two lightest trees are put together again and again.
func depthsOf(counts []int) []uint8 {
	symbols := byCount(counts)
	depths := make([]uint8, len(counts))
	if len(symbols) == 1 {
		depths[symbols[0]] = 1
	}
	if len(symbols) < 2 {
		return depths
	}
	trees := joinTrees(counts, symbols)
	for i := len(trees) - 2; i >= 0; i-- { // a parent stands behind its children, so from the root on down
		trees[i].depth = trees[trees[i].above].depth + 1
	}
	for i, symbol := range symbols {
		depths[symbol] = trees[i].depth
	}
	return depths
}

// byCount is the symbols that have a count, the rarest first, and of equal counts in their own order.
func byCount(counts []int) []int {
	var symbols []int
	for symbol, n := range counts {
		if n > 0 {
			symbols = append(symbols, symbol)
		}
	}
	slices.SortStableFunc(symbols, func(a, b int) int { return cmp.Compare(counts[a], counts[b]) })
	return symbols
}

// joinTrees lays down the trees of the symbols, in their order, and behind them the joined ones, as they are made: these come out by rising weight too, so the lightest of all is always the first left of the one kind or of the other.
func joinTrees(counts, symbols []int) []tree {
	leaves := len(symbols)
	trees := make([]tree, leaves, 2*leaves-1)
	for i, symbol := range symbols {
		trees[i].weight = counts[symbol]
	}
	leaf, joined := 0, leaves
	lightest := func() int {
		if leaf < leaves && (joined == len(trees) || trees[leaf].weight <= trees[joined].weight) {
			leaf++
			return leaf - 1
		}
		joined++
		return joined - 1
	}
	for len(trees) < 2*leaves-1 {
		a := lightest()
		b := lightest()
		trees[a].above, trees[b].above = len(trees), len(trees)
		trees = append(trees, tree{weight: trees[a].weight + trees[b].weight})
	}
	return trees
}
