package jsonscan

import "crucible/api"

// word is what is still to come of null, true or false.
type word string

func blank(b byte) bool { return b == ' ' || b == '\n' || b == '\r' || b == '\t' }

// mayEnd goes on where the innermost value ends, or may.
func (s *Scanner) mayEnd(next step) step {
	s.ends = true
	return next
}

// value: a value must come.
func (s *Scanner) value(b byte) step {
	switch {
	case blank(b):
		return s.value
	case b == '"':
		return s.quoted(false)
	case b == '[':
		return s.opened(']', s.firstElement)
	case b == '{':
		return s.opened('}', s.firstKey)
	case b == '-' || digit(b):
		return s.number(b)
	}
	return s.named(b)
}

func (s *Scanner) named(b byte) step {
	for _, w := range [...]word{"null", "true", "false"} {
		if w[0] == b {
			s.word = w[1:]
			return s.letter
		}
	}
	return nil
}

// letter: the next one of a word must come.
func (s *Scanner) letter(b byte) step {
	if b != s.word[0] {
		return nil
	}
	s.word = s.word[1:]
	if s.word == "" {
		return s.mayEnd(s.behind)
	}
	return s.letter
}

// opened takes an opening bracket where one may stand: nothing but the limit is against it.
func (s *Scanner) opened(closing byte, next step) step {
	if len(s.open) == api.MaxDepth {
		s.err = api.ErrLimit
		return nil
	}
	s.open = append(s.open, closing)
	return next
}

func (s *Scanner) closed() step {
	s.open = s.open[:len(s.open)-1]
	return s.mayEnd(s.behind)
}

// firstElement: behind the bracket of a list.
func (s *Scanner) firstElement(b byte) step {
	switch {
	case blank(b):
		return s.firstElement
	case b == ']':
		return s.closed()
	}
	return s.value(b)
}

// firstKey: behind the bracket of a map.
func (s *Scanner) firstKey(b byte) step {
	switch {
	case blank(b):
		return s.firstKey
	case b == '}':
		return s.closed()
	}
	return s.key(b)
}

// key: a key must come.
func (s *Scanner) key(b byte) step {
	switch {
	case blank(b):
		return s.key
	case b == '"':
		return s.quoted(true)
	}
	return nil
}

// colon: behind a key.
func (s *Scanner) colon(b byte) step {
	switch {
	case blank(b):
		return s.colon
	case b == ':':
		return s.value
	}
	return nil
}

// behind: a value has ended.
func (s *Scanner) behind(b byte) step {
	if blank(b) {
		return s.mayEnd(s.behind)
	}
	if len(s.open) == 0 {
		return nil
	}
	closing := s.open[len(s.open)-1]
	switch {
	case b == closing:
		return s.closed()
	case b == ',' && closing == ']':
		return s.value
	case b == ',':
		return s.key
	}
	return nil
}
