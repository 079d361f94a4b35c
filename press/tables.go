package press

// Symbols of the literal code: bytes, the block's end, and behind it the lengths, one for each row.
const (
	blockEnd    = 256
	firstLength = 257
)

// Kinds of blocks, as the two bits behind a block's first one tell them.
const (
	kindStored  = 0
	kindFixed   = 1
	kindDynamic = 2
)

// Symbols of the length code that stand for more than one length; those below are lengths themselves.
const (
	repeatLast = 16
	fewZeros   = 17
	manyZeros  = 18
)

const (
	literalSymbols  = 288
	distanceSymbols = 32
	lengthSymbols   = 19

	mostLiterals  = 286 // symbols of the literal code that stand for something
	mostDistances = 30  // and of the distance code

	minLiterals  = 257 // what HLIT is added to
	minDistances = 1   // what HDIST is added to
	minLengths   = 4   // what HCLEN is added to

	greatestLength      = 15
	greatestShortLength = 7 // of the length code's words, whose lengths have three bits

	leastMatch = 3
	mostMatch  = 258
	reach      = 32768
)

// A row is what a symbol stands for: a number, and how many further bits are added to it.
type row struct {
	base uint16
	bits uint8
}

var lengthRows = [mostLiterals - firstLength]row{
	{3, 0}, {4, 0}, {5, 0}, {6, 0}, {7, 0}, {8, 0}, {9, 0}, {10, 0},
	{11, 1}, {13, 1}, {15, 1}, {17, 1},
	{19, 2}, {23, 2}, {27, 2}, {31, 2},
	{35, 3}, {43, 3}, {51, 3}, {59, 3},
	{67, 4}, {83, 4}, {99, 4}, {115, 4},
	{131, 5}, {163, 5}, {195, 5}, {227, 5},
	{258, 0},
}

var distanceRows = [mostDistances]row{
	{1, 0}, {2, 0}, {3, 0}, {4, 0},
	{5, 1}, {7, 1}, {9, 2}, {13, 2},
	{17, 3}, {25, 3}, {33, 4}, {49, 4},
	{65, 5}, {97, 5}, {129, 6}, {193, 6},
	{257, 7}, {385, 7}, {513, 8}, {769, 8},
	{1025, 9}, {1537, 9}, {2049, 10}, {3073, 10},
	{4097, 11}, {6145, 11}, {8193, 12}, {12289, 12},
	{16385, 13}, {24577, 13},
}

// repeatRows is what the length code's symbols from repeatLast on stand for: how many lengths.
var repeatRows = [3]row{{3, 2}, {3, 3}, {11, 7}}

// lengthOrder is the order in which the lengths of the length code's words are told.
var lengthOrder = [lengthSymbols]uint8{16, 17, 18, 0, 8, 7, 9, 6, 10, 5, 11, 4, 12, 3, 13, 2, 14, 1, 15}
