package net

import "iter"

// tree is a fat tree: levels of switches, which are named by words of digits.
type tree struct {
	k      int // the base of the digits, and how many switches of the next level are linked with a switch
	levels int
	words  int // on each level
}

func treeOf(s Spec) (tree, bool) {
	if len(s.Sides) != 2 {
		return tree{}, false
	}
	k, levels := s.Sides[0], s.Sides[1]
	if !within(k, 2, 8) || !within(levels, 1, 4) || power(k, levels) > maxSize || s.Hosts != k {
		return tree{}, false
	}
	return tree{k, levels, power(k, levels-1)}, true
}

func (t tree) size() (switches, homes int) { return t.levels * t.words, t.words }

// place returns the level and the word of a switch.
func (t tree) place(x int) []int { return []int{x / t.words, x % t.words} }

// without returns a word without some of its lowest digits.
func (t tree) without(word, digits int) int { return word / power(t.k, digits) }

// digit returns the digit of a word with an index.
func (t tree) digit(word, index int) int { return t.without(word, index) % t.k }

// with returns a word whose digit with an index is another one.
func (t tree) with(word, index, digit int) int {
	return word + (digit-t.digit(word, index))*power(t.k, index)
}

func (t tree) neighbors(x int) iter.Seq[int] {
	return func(yield func(int) bool) {
		level, word := x/t.words, x%t.words
		if level > 0 {
			for digit := range t.k {
				if !yield((level-1)*t.words + t.with(word, level-1, digit)) {
					return
				}
			}
		}
		if level < t.levels-1 {
			for digit := range t.k {
				if !yield((level+1)*t.words + t.with(word, level, digit)) {
					return
				}
			}
		}
	}
}

func (t tree) route(x, goal int) iter.Seq2[int, int] {
	return func(yield func(to, class int) bool) {
		level, word := x/t.words, x%t.words
		for t.without(word, level) != t.without(goal, level) { // a goal, on the level 0, is its word
			word = t.with(word, level, t.digit(goal, level))
			level++
			if !yield(level*t.words+word, 0) {
				return
			}
		}
		for level > 0 {
			level--
			word = t.with(word, level, t.digit(goal, level))
			if !yield(level*t.words+word, 0) {
				return
			}
		}
	}
}

func (t tree) snake() []int { return ascending(t.words) }

func (t tree) sides() iter.Seq[func(x int) bool] {
	return func(yield func(func(x int) bool) bool) {
		for level := t.levels - 1; level > 0; level-- {
			for v := range power(t.k, t.levels-level) {
				in := func(x int) bool { return x/t.words < level && t.without(x%t.words, level-1) == v }
				if !yield(in) {
					return
				}
			}
		}
	}
}
