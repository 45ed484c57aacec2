package show

import "fleuron/api"

// writer writes tokens, with a blank between each two, and lines of them.
type writer struct {
	text   []byte
	depth  int    // how many statements the line stands in
	nodes  int    // how many nodes of expressions have been begun
	tail   number // what of a number the last tokens are
	factor bool   // the next token is the first one of a prim that the number ahead of it is a factor of
}

// number is what of a number the last tokens are, which a / or a number behind them would go on with.
type number int

const (
	none      number = iota
	undivided        // a number that is not divided by one
	divided          // such a number, and a /
)

// refuse ends the writing with an error.
func refuse(e api.Errno) { panic(e) }

// written returns the string that a closure writes, or the error with which it refuses to.
func written(write func(w *writer)) (s string, e api.Errno) {
	defer func() {
		switch caught := recover().(type) {
		case nil:
		case api.Errno:
			s, e = "", caught
		default:
			panic(caught)
		}
	}()
	w := &writer{}
	write(w)
	return string(w.text), api.OK
}

// add adds a string to the text.
func (w *writer) add(s string) {
	if len(w.text)+len(s) > api.MaxText {
		refuse(api.ErrLimit)
	}
	w.text = append(w.text, s...)
}

// put writes tokens.
func (w *writer) put(tokens ...string) {
	for _, s := range tokens {
		if n := len(w.text); n > 0 && w.text[n-1] != '\n' && w.text[n-1] != ' ' {
			w.add(" ")
		}
		w.add(s)
		w.factor = false
		if w.tail == undivided && s == "/" {
			w.tail = divided
		} else {
			w.tail = none
		}
	}
}

// line writes a line, as far in as the statements are many that it stands in.
func (w *writer) line(write func()) {
	for range w.depth {
		w.add("  ")
	}
	write()
	w.add("\n")
}

// begin counts a node that is being written.
func (w *writer) begin() {
	// Each has a token of its own, so that more nodes are too long in any case. If they are within each other, they would need much of the stack before a token is written.
	if w.nodes == api.MaxText {
		refuse(api.ErrLimit)
	}
	w.nodes++
}
