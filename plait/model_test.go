package plait_test

import (
	"strconv"

	"becket/plait"
)

// The model follows each thread and each strand by itself, as the chapter's definitions tell it.

// ruleIn returns the rule that refuses a move between slots of a stand with so many, where threads have these slots.
func ruleIn(slots int, threads map[int]int, m plait.Move) int {
	switch {
	case m.From < 0 || m.From >= slots || m.To < 0 || m.To >= slots:
		return 1
	case threadIn(threads, m.From) == 0:
		return 2
	case threadIn(threads, m.To) != 0:
		return 3
	}
	return 0
}

// threadIn returns the thread in a slot, or 0.
func threadIn(threads map[int]int, slot int) int {
	for thread, in := range threads {
		if in == slot {
			return thread
		}
	}
	return 0
}

// threadsIn returns the slots of the threads of a stand.
func threadsIn(s []int) map[int]int {
	threads := map[int]int{}
	for slot, thread := range s {
		if thread != 0 {
			threads[thread] = slot
		}
	}
	return threads
}

// standOf returns the stand with so many slots, where threads have these slots.
func standOf(slots int, threads map[int]int) []int {
	s := make([]int, slots)
	for thread, slot := range threads {
		s[slot] = thread
	}
	return s
}

// playIn returns the stand after moves, what was set aside, and over how many threads each legal move passed.
func playIn(s []int, l []plait.Move) ([]int, []plait.Refusal, []int) {
	threads := threadsIn(s)
	var refusals []plait.Refusal
	var spans []int
	for i, m := range l {
		if rule := ruleIn(len(s), threads, m); rule != 0 {
			refusals = append(refusals, plait.Refusal{Number: i + 1, Rule: rule})
			continue
		}
		spans = append(spans, spanIn(len(s), threads, m))
		threads[threadIn(threads, m.From)] = m.To
	}
	return standOf(len(s), threads), refusals, spans
}

// spanIn returns over how many threads a move passes: step by step, on both ways.
func spanIn(slots int, threads map[int]int, m plait.Move) int {
	walk := func(step int) (length, passed int) {
		for slot := m.From; ; {
			slot = (slot + step + slots) % slots
			length++
			if slot == m.To {
				return length, passed
			}
			if threadIn(threads, slot) != 0 {
				passed++
			}
		}
	}
	up, passedUp := walk(1)
	down, passedDown := walk(-1)
	if down < up {
		return passedDown
	}
	return passedUp
}

// turnedIn returns a stand turned by some slots, slot by slot.
func turnedIn(s []int, by int) []int {
	turned := make([]int, len(s))
	for slot, thread := range s {
		to := slot
		for range (by%len(s) + len(s)) % len(s) {
			to++
			if to == len(s) {
				to = 0
			}
		}
		turned[to] = thread
	}
	return turned
}

// wordOfPass returns the letters of a pass, as the chapter lists them.
func wordOfPass(p plait.Pass) []int {
	var w []int
	if p.From < p.To {
		for i := p.From; i <= p.To-1; i++ {
			w = append(w, map[byte]int{'o': i, 'u': -i}[p.Way[i-p.From]])
		}
		return w
	}
	for i := p.From - 1; i >= p.To; i-- {
		w = append(w, map[byte]int{'o': -i, 'u': i}[p.Way[p.From-1-i]])
	}
	return w
}

// wordIn returns the word of passes, of any length.
func wordIn(l []plait.Pass) []int {
	var w []int
	for _, p := range l {
		w = append(w, wordOfPass(p)...)
	}
	return w
}

// passesIn returns the passes of a word: it tries all passes that have the next letters as their word.
func passesIn(n int, w []int) []plait.Pass {
	var l []plait.Pass
	for len(w) > 0 {
		var best plait.Pass
		for from := 1; from <= n; from++ {
			for to := 1; to <= n; to++ {
				if p, is := passIn(from, to, w); is && (len(p.Way) > len(best.Way) || len(p.Way) == len(best.Way) && to > from) {
					best = p
				}
			}
		}
		l = append(l, best)
		w = w[len(best.Way):]
	}
	return l
}

// passIn returns the pass from one position to another that has the first letters of a word, and whether there is one.
func passIn(from, to int, w []int) (plait.Pass, bool) {
	length := max(from-to, to-from)
	if length == 0 || length > len(w) {
		return plait.Pass{}, false
	}
	p := plait.Pass{From: from, To: to}
	for _, letter := range w[:length] {
		p.Way += map[bool]string{true: "o", false: "u"}[(letter > 0) == (from < to)]
	}
	for i, letter := range wordOfPass(p) {
		if letter != w[i] {
			return plait.Pass{}, false
		}
	}
	return p, true
}

// rowAfter returns the strands of a row after passes: each strand is moved by itself.
func rowAfter(positions []int, l []plait.Pass) []int {
	at := append([]int{}, positions...) // the position of each strand
	for _, p := range l {
		for strand, position := range at {
			switch {
			case position == p.From:
				at[strand] = p.To
			case p.From < position && position <= p.To:
				at[strand]--
			case p.To <= position && position < p.From:
				at[strand]++
			}
		}
	}
	return at
}

// positionsIn returns the first positions of n strands.
func positionsIn(n int) []int {
	var positions []int
	for position := 1; position <= n; position++ {
		positions = append(positions, position)
	}
	return positions
}

// crossesIn returns the crossings of a word: each strand is looked for by its position.
func crossesIn(n int, w []int) []plait.Cross {
	at := positionsIn(n)
	var list []plait.Cross
	for _, letter := range w {
		size := max(letter, -letter)
		left, right := -1, -1
		for strand, position := range at {
			switch position {
			case size:
				left = strand
			case size + 1:
				right = strand
			}
		}
		at[left], at[right] = size+1, size
		if letter > 0 {
			list = append(list, plait.Cross{Over: left + 1, Under: right + 1})
		} else {
			list = append(list, plait.Cross{Over: right + 1, Under: left + 1})
		}
	}
	return list
}

// alternatesIn returns the least strand that is above, or below, in two crossings one after the other, or 0.
func alternatesIn(n int, crosses []plait.Cross) int {
	for strand := 1; strand <= n; strand++ {
		var above []bool
		for _, c := range crosses {
			if c.Over == strand || c.Under == strand {
				above = append(above, c.Over == strand)
			}
		}
		for i := 1; i < len(above); i++ {
			if above[i] == above[i-1] {
				return strand
			}
		}
	}
	return 0
}

// divisorOf returns the greatest common divisor.
func divisorOf(a, b int) int {
	for divisor := min(a, b); ; divisor-- {
		if a%divisor == 0 && b%divisor == 0 {
			return divisor
		}
	}
}

// textOf returns the text of moves.
func textOf(l []plait.Move) string {
	text := ""
	for i, m := range l {
		if i > 0 {
			text += " "
		}
		text += strconv.Itoa(m.From) + "-" + strconv.Itoa(m.To)
	}
	return text
}
