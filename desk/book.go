package desk

import (
	"slices"
	"sync"
)

// row is a command: its word, what the words behind it are, what stands behind these, and what is done.
type row struct {
	word  string
	takes []taker
	tail  tail
	do    func(w *world, g given)
}

// book is the table of commands. All workers of a batch read one book.
type book struct {
	once sync.Once
	rows []row
}

// row is the row of a command. The first one that asks makes the table.
func (b *book) row(word string) (row, bool) {
	b.once.Do(func() { b.rows = commands() })
	at := slices.IndexFunc(b.rows, func(r row) bool { return r.word == word })
	if at < 0 {
		return row{}, false
	}
	return b.rows[at], true
}

func takes(list ...taker) []taker { return list }

func commands() []row {
	return []row{
		{"store", takes(aStore), nothing, (*world).store},
		{"label", takes(aNewNick, aHash, aName), nothing, (*world).label},
		{"guest", takes(aNick), theRest, (*world).guest},
		{"link", takes(aNick), theRest, (*world).link},
		{"import", nil, nothing, (*world).imports},
		{"text", takes(aNewNick, aWord), theRest, (*world).text},
		{"tree", takes(aNewNick, aWord), theRest, (*world).tree},
		{"rewrite", takes(aNick), moreNicks, (*world).rewrite},
		{"lookup", takes(aNick), nothing, (*world).lookup},
		{"verify", takes(aNick), nothing, (*world).verify},
		{"show", takes(aNick), nothing, (*world).show},
		{"list", nil, nothing, (*world).list},
		{"sames", nil, nothing, (*world).sames},
		{"keep", takes(aWord, aNick), nothing, (*world).keep},
		{"release", takes(aWord), nothing, (*world).release},
		{"advance", takes(aWord, aNick), nothing, (*world).advance},
		{"switch", takes(aWord, aNumber), nothing, (*world).switches},
		{"trim", takes(aWord, aNumber), nothing, (*world).trim},
		{"live", nil, nothing, (*world).live},
		{"collect", takes(aNumber), nothing, (*world).collect},
		{"recipe", takes(aNewNick, aWord), theRest, (*world).recipe},
		{"make", takes(aNick), nothing, (*world).makes},
		{"key", takes(aWord, digits), nothing, (*world).key},
		{"push", takes(aNick), moreNicks, (*world).push},
		{"pull", takes(aNick), moreNicks, (*world).pull},
		{"files", nil, nothing, (*world).tellFiles},
		{"turn", takes(aFile, aPlace, aByte), nothing, (*world).turn},
		{"carry", takes(aStore, aNick), moreNicks, (*world).carry},
		{"ask", takes(digits), nothing, (*world).ask},
		{"compact", nil, nothing, (*world).compact},
		{"crash", takes(aNumber, aNumber, aNumber), nothing, (*world).crash},
		{"stat", nil, nothing, (*world).stat},
	}
}
