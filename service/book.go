package service

import (
	"slices"
	"strings"

	"wallgauge/api"
)

// Book is the state of a service.
type Book struct {
	hands   []worker
	blocks  []Block
	items   []finding
	reports []Report
	ledger  []string // its lines
	sum     uint64   // the digest of its last line
}

// worker is a hand, and the channel on which it waits for work. No two hands have the same one, so it tells who did what.
type worker struct {
	Hand
	desk chan struct{}
}

// finding is an item, and the desk of the hand who decided.
type finding struct {
	Item
	decider chan struct{}
}

// New returns a book without anything.
func New() *Book { return &Book{} }

// commands returns what performs the commands with each word.
func commands() map[string]func(*Book, []string) {
	return map[string]func(*Book, []string){
		"hand":     (*Book).hire,
		"block":    (*Book).store,
		"find":     (*Book).find,
		"again":    (*Book).readAgain,
		"dig":      (*Book).dig,
		"decide":   (*Book).decide,
		"sign":     (*Book).sign,
		"withdraw": (*Book).withdraw,
		"report":   (*Book).report,
	}
}

// Do performs a command.
func (b *Book) Do(line string) (e api.Errno) {
	defer func() {
		if refused, ok := recover().(api.Errno); ok {
			e = refused
		}
	}()
	need(b != nil, api.ErrArg)
	need(len(line) <= maxLine, api.ErrSize)
	words := strings.Split(line, " ")
	perform, known := commands()[words[0]]
	need(known, api.ErrForm)
	perform(b, words)
	b.enter(line)
	return api.OK
}

// need panics with an error if what a command needs is not so. A command asks for all that it needs before it changes anything.
func need(ok bool, e api.Errno) {
	if !ok {
		panic(e)
	}
}

// name returns the name of a hand.
func (h Hand) name() string { return h.Name }

// name returns the name of a block.
func (b Block) name() string { return b.Name }

// name returns the name of a finding.
func (x Item) name() string { return x.Name }

// name returns the name of a report.
func (r Report) name() string { return r.Name }

// indexOf returns the index of the element with a name, or -1.
func indexOf[T interface{ name() string }](l []T, name string) int {
	return slices.IndexFunc(l, func(x T) bool { return x.name() == name })
}

// worker returns a hand of a role.
func (b *Book) worker(name string, role int) worker {
	i := indexOf(b.hands, name)
	need(i >= 0 && b.hands[i].Role == role, api.ErrHand)
	return b.hands[i]
}

// finding returns a finding.
func (b *Book) finding(name string) *finding {
	i := indexOf(b.items, name)
	need(i >= 0, api.ErrNone)
	return &b.items[i]
}
