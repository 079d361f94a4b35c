package desk

import (
	"sync"

	"graft/api"
)

// answer is what came of a play: its number, and its text.
type answer struct {
	number int
	text   string
}

// gathered lets so many workers play; all of them have ended when it answers. Answers come in any order: each goes by its number.
func gathered(plays []string, workers int) []string {
	numbers := make(chan int, len(plays))
	for n := range plays {
		numbers <- n
	}
	close(numbers)
	answers, leaving := make(chan answer), make(chan int)
	var ended sync.WaitGroup
	b := new(book)
	for range workers {
		ended.Add(1)
		go func() {
			defer ended.Done()
			for n := range numbers {
				answers <- answer{n, withFault(plays[n], b)}
			}
			leaving <- 1 // all its answers were taken
		}()
	}
	out := make([]string, len(plays))
	for left := workers; left > 0; {
		select {
		case a := <-answers:
			out[a.number] = a.text
		case n := <-leaving:
			left -= n
		}
	}
	ended.Wait()
	return out
}

// withFault is a play's text, and what was wrong with it, if something was.
func withFault(commands string, b *book) string {
	text, e, line := played(commands, b)
	if e != api.OK {
		text += "fault " + number(int(e)) + " at " + number(line) + "\n"
	}
	return text
}
