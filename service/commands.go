package service

import (
	"slices"
	"strconv"

	"wallgauge/api"
)

const (
	maxSources  = 8  // blocks of a finding
	maxReported = 16 // findings of a report
	unknown     = -1 // a depth that was not dug yet
)

// hire performs a command `hand`.
func (b *Book) hire(words []string) {
	need(hasForm("hand HAND ROLE", words), api.ErrForm)
	need(indexOf(b.hands, words[1]) < 0, api.ErrTwice)
	need(len(b.hands) < api.MaxHands, api.ErrFull)
	b.hands = append(b.hands, worker{Hand{words[1], roleOf(words[2])}, make(chan struct{})})
}

// store performs a command `block`.
func (b *Book) store(words []string) {
	need(hasForm("block BLOCK HAND DIGEST", words), api.ErrForm)
	need(indexOf(b.blocks, words[1]) < 0, api.ErrTwice)
	b.worker(words[2], Runner)
	need(len(b.blocks) < api.MaxItems, api.ErrFull)
	digest, _ := strconv.ParseUint(words[3], 16, 64) // there is none, as the form is right
	b.blocks = append(b.blocks, Block{Name: words[1], Digest: digest})
}

// find performs a command `find`.
func (b *Book) find(words []string) {
	need(hasForm("find ITEM HAND DEPTH BLOCK ..", words), api.ErrForm)
	need(indexOf(b.items, words[1]) < 0, api.ErrTwice)
	x := b.reading(words)
	need(len(b.items) < api.MaxItems, api.ErrFull)
	b.items = append(b.items, x)
}

// readAgain performs a command `again`.
func (b *Book) readAgain(words []string) {
	need(hasForm("again ITEM HAND DEPTH BLOCK ..", words), api.ErrForm)
	x := b.finding(words[1])
	need(x.State == Suspect, api.ErrState)
	*x = b.reading(words)
}

// reading returns the finding that a reader makes by a command `find` or `again`.
func (b *Book) reading(words []string) finding {
	b.worker(words[2], Reader)
	sources := words[4:]
	for i, name := range sources {
		k := indexOf(b.blocks, name)
		need(k >= 0, api.ErrNone)
		need(!slices.Contains(sources[:i], name), api.ErrTwice)
		need(!b.blocks[k].Withdrawn, api.ErrHeld)
	}
	need(len(sources) <= maxSources, api.ErrFull)
	return finding{Item: Item{Name: words[1], State: Found, Read: depthOf(words[3]), Dug: unknown, Blocks: sources}}
}

// depthOf returns the depth that a number says.
func depthOf(number string) int {
	depth, _ := strconv.Atoi(number) // there is no error, as the form is right
	return depth
}

// dig performs a command `dig`.
func (b *Book) dig(words []string) {
	need(hasForm("dig ITEM HAND DEPTH", words), api.ErrForm)
	x := b.finding(words[1])
	need(x.State == Found, api.ErrState)
	b.worker(words[2], Digger)
	x.State, x.Dug = Dug, depthOf(words[3])
}

// decide performs a command `decide`.
func (b *Book) decide(words []string) {
	need(hasForm("decide ITEM HAND WORD", words), api.ErrForm)
	x := b.finding(words[1])
	need(x.State == Found || x.State == Dug, api.ErrState)
	signer := b.worker(words[2], Signer)
	need(words[3] != cut || x.State == Dug, api.ErrHeld)
	x.State, x.Word, x.By, x.decider = Decided, words[3], signer.Name, signer.desk
}

// sign performs a command `sign`.
func (b *Book) sign(words []string) {
	need(hasForm("sign ITEM HAND", words), api.ErrForm)
	x := b.finding(words[1])
	need(x.State == Decided, api.ErrState)
	signer := b.worker(words[2], Signer)
	need(signer.desk != x.decider, api.ErrHand)
	x.State, x.Signed = Final, signer.Name
}

// withdraw performs a command `withdraw`.
func (b *Book) withdraw(words []string) {
	need(hasForm("withdraw BLOCK", words), api.ErrForm)
	i := indexOf(b.blocks, words[1])
	need(i >= 0, api.ErrNone)
	need(!b.blocks[i].Withdrawn, api.ErrState)
	b.blocks[i].Withdrawn = true
	for k := range b.items {
		if slices.Contains(b.items[k].Blocks, words[1]) {
			b.items[k].State = Suspect
		}
	}
}

// report performs a command `report`.
func (b *Book) report(words []string) {
	need(hasForm("report REPORT ITEM ..", words), api.ErrForm)
	need(indexOf(b.reports, words[1]) < 0, api.ErrTwice)
	items := words[2:]
	for i, name := range items {
		x := b.finding(name)
		need(!slices.Contains(items[:i], name), api.ErrTwice)
		need(x.State == Final, api.ErrHeld)
	}
	need(len(items) <= maxReported && len(b.reports) < api.MaxItems, api.ErrFull)
	b.reports = append(b.reports, Report{words[1], items})
}
