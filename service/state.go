package service

import (
	"slices"

	"wallgauge/api"
)

// known returns what a book knows: nothing, if it is nil.
func (b *Book) known() Book {
	if b == nil {
		return Book{}
	}
	return *b
}

// Hands returns all hands.
func (b *Book) Hands() []Hand {
	var out []Hand
	for _, h := range b.known().hands {
		out = append(out, h.Hand)
	}
	return out
}

// Blocks returns all blocks.
func (b *Book) Blocks() []Block { return slices.Clone(b.known().blocks) }

// Items returns all findings.
func (b *Book) Items() []Item {
	var out []Item
	for _, x := range b.known().items {
		out = append(out, x.copied())
	}
	return out
}

// copied returns a finding with memory of its own.
func (x Item) copied() Item {
	x.Blocks = slices.Clone(x.Blocks)
	return x
}

// Reports returns all reports.
func (b *Book) Reports() []Report {
	var out []Report
	for _, r := range b.known().reports {
		out = append(out, Report{r.Name, slices.Clone(r.Items)})
	}
	return out
}

// Item returns a finding.
func (b *Book) Item(name string) (Item, api.Errno) {
	items := b.known().items
	i := indexOf(items, name)
	if i < 0 {
		return Item{}, api.ErrNone
	}
	return items[i].copied(), api.OK
}

// Trace returns the blocks that a report rests on.
func (b *Book) Trace(report string) ([]string, api.Errno) {
	known := b.known()
	i := indexOf(known.reports, report)
	if i < 0 {
		return nil, api.ErrNone
	}
	var sources, out []string
	for _, name := range known.reports[i].Items {
		sources = append(sources, b.finding(name).Blocks...)
	}
	for _, x := range known.blocks {
		if slices.Contains(sources, x.Name) {
			out = append(out, x.Name)
		}
	}
	return out, api.OK
}

// Suspects returns the reports that rest on withdrawn blocks.
func (b *Book) Suspects() []string {
	known := b.known()
	var suspect, out []string
	for _, x := range known.items {
		if x.State == Suspect {
			suspect = append(suspect, x.Name)
		}
	}
	for _, r := range known.reports {
		if slices.ContainsFunc(r.Items, func(name string) bool { return slices.Contains(suspect, name) }) {
			out = append(out, r.Name)
		}
	}
	return out
}
