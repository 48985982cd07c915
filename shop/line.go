package shop

import (
	"strconv"
	"strings"

	"squeegee/api"
)

const (
	maxNumber = 1000000
	maxName   = 12 // bytes of a name
)

// kind is a kind of words.
type kind int

const (
	aNumber kind = iota
	aName
	aClass // of frames
	aWord  // any word
)

// form is the kinds of the words that follow the first word of a line.
type form []kind

// given are the words that follow the first word of a line, in order: its numbers, and its other words.
type given struct {
	numbers []int
	words   []string
}

// line is what the first word of a line stands for: a change or a question.
type line interface {
	read(words []string) (given, bool)
}

// change is a line that is put into the book once it is done.
type change struct {
	form
	do func(given) api.Errno
}

// question is a line that changes nothing. Its reply counts only if there is no error.
type question struct {
	form
	ask func(given) (string, api.Errno)
}

// read returns the words after the first one, or false if their number or kinds are wrong.
func (f form) read(words []string) (given, bool) {
	var out given
	if len(words) != len(f) {
		return given{}, false
	}
	for i, word := range words {
		if f[i] != aNumber {
			if !isOfKind(f[i], word) {
				return given{}, false
			}
			out.words = append(out.words, word)
			continue
		}
		n, is := number(word)
		if !is {
			return given{}, false
		}
		out.numbers = append(out.numbers, n)
	}
	return out, true
}

// isOfKind reports whether a word is of a kind other than numbers. No word is empty, as there is just one blank between any two.
func isOfKind(k kind, word string) bool {
	switch k {
	case aName:
		return isName(word)
	case aClass:
		return word == "K" || word == "T" || word == "4" || word == "S"
	}
	return word != ""
}

// number reads a number that is written in the one way that is right.
func number(word string) (int, bool) {
	n, err := strconv.Atoi(word)
	if err != nil || n < -maxNumber || n > maxNumber || strconv.Itoa(n) != word {
		return 0, false
	}
	return n, true
}

// isName reports whether a word is a name.
func isName(word string) bool {
	for _, c := range []byte(word) {
		if c < 'a' || c > 'z' {
			return false
		}
	}
	return len(word) >= 1 && len(word) <= maxName
}

// lines are all lines that there are, by their first words.
func (s *Shop) lines() map[string]line {
	return map[string]line{
		"order":   change{form{aWord}, s.order},
		"promise": change{form{aName, aWord}, s.promise},
		"drop":    change{form{aName}, s.drop},
		"chance":  change{form{aNumber, aWord, aWord, aWord, aWord}, s.chance},
		"use":     change{form{aNumber, aNumber, aWord}, s.use},
		"offer":   change{form{aNumber, aNumber, aNumber}, s.offer},
		"window":  change{form{aNumber, aNumber}, s.window},
		"move":    change{form{aNumber}, s.move},
		"has":     question{form{aWord}, s.has},
		"states":  question{form{}, s.states},
		"keep":    question{form{aName, aClass}, s.keep},
		"reach":   question{form{aNumber, aNumber}, s.reach},
		"share":   question{form{aNumber}, s.share},
		"firms":   question{form{}, s.firms},
		"make":    question{form{}, s.output},
		"deal":    question{form{}, s.deal},
		"pay":     question{form{}, s.pay},
		"cups":    question{form{}, s.cups},
		"cross":   question{form{}, s.cross},
		"home":    question{form{}, s.home},
	}
}

// cause is an error of package api as a value of type error.
type cause api.Errno

// Error returns the reply to a line that is refused for this cause.
func (c cause) Error() string {
	return say("error", strconv.Itoa(int(c)))
}

// refusal is an error with the line that caused it.
type refusal struct {
	text string
	why  cause
}

// Error returns the line and the reply to it.
func (r refusal) Error() string {
	return r.text + ": " + r.why.Error()
}

// Unwrap returns the cause alone.
func (r refusal) Unwrap() error {
	return r.why
}

// answer does what a line says and returns its reply, or a refusal.
func (s *Shop) answer(text string) (string, error) {
	reply, e := s.follow(text)
	if e != api.OK {
		return "", refusal{text, cause(e)}
	}
	return reply, nil
}

// follow does what a line says. The reply counts only if there is no error.
func (s *Shop) follow(text string) (string, api.Errno) {
	switch {
	case s == nil:
		return "", api.ErrNil
	case len(text) > api.MaxLine || strings.Contains(text, "\n"):
		return "", api.ErrLong
	case text == "" || text[0] == '#':
		return "", api.OK
	}
	words := strings.Split(text, " ")
	l, known := s.lines()[words[0]]
	if !known {
		return "", api.ErrLine
	}
	g, fits := l.read(words[1:])
	if !fits {
		return "", api.ErrLine
	}
	switch l := l.(type) {
	case change:
		return s.enter(text, l.do(g))
	case question:
		return l.ask(g)
	}
	return "", api.ErrLine
}

// enter puts a line into the book if it was done without an error.
func (s *Shop) enter(text string, e api.Errno) (string, api.Errno) {
	if e == api.OK {
		s.book = append(s.book, text)
	}
	return "ok", e
}

// say writes a reply.
func say(first string, others ...string) string {
	return strings.Join(append([]string{first}, others...), " ")
}
