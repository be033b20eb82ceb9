package service_test

import (
	"fmt"
	"math"
	"slices"
	"strings"
	"testing"

	"wallgauge/api"
	"wallgauge/service"
)

// spoil changes a list, and what is behind its end.
func spoil[T any](l []T) {
	clear(l[:cap(l)])
}

func TestR4Memory(t *testing.T) {
	b := performed(t, append(long(), "block b5 ann 0000000000000000", "find f5 bob 5 b3 b5")...)
	before := shot(b)
	spoil(b.Hands())
	spoil(b.Blocks())
	for _, x := range b.Items() {
		spoil(x.Blocks)
		spoil(must[service.Item](t)(b.Item(x.Name)).Blocks)
	}
	spoil(b.Items())
	for _, x := range b.Reports() {
		spoil(x.Items)
		spoil(must[[]string](t)(b.Trace(x.Name)))
	}
	spoil(b.Reports())
	spoil(b.Suspects())
	if after := shot(b); after != before || len(b.Suspects()) != 3 {
		t.Errorf("%s becomes %s", before, after)
	}
}

func TestR4MemoryOfParts(t *testing.T) {
	b := performed(t, long()...)
	items, reports := b.Items(), b.Reports()
	spoil(items[0].Blocks)
	spoil(reports[0].Items)
	if got, want := fmt.Sprint(items[1:], reports[1:]), fmt.Sprint(b.Items()[1:], b.Reports()[1:]); got != want {
		t.Errorf("%s, not %s", got, want)
	}
	h := must[service.History](t)(service.Check(must[string](t)(b.Papers("r3"))))
	lines := slices.Clone(h.Lines)
	spoil(h.Items)
	if !slices.Equal(h.Lines, lines) {
		t.Errorf("%v, not %v", h.Lines, lines)
	}
}

func TestR4Arguments(t *testing.T) {
	findings := func() []api.Finding { return []api.Finding{seen(90, 0), seen(12, 9), seen(7, 7), seen(5, 5)} }
	a, b := findings(), findings()
	pairs := must[[][2]int](t)(service.Reconcile(a[:2], b[1:3], 99))
	if len(pairs) != 1 {
		t.Errorf("%v", pairs)
	}
	spoil(pairs)
	if !slices.Equal(a, findings()) || !slices.Equal(b, findings()) {
		t.Errorf("the arguments become %v and %v", a, b)
	}
	route := must[[]int](t)(service.Route(service.Trap{Gas: 3}))
	spoil(route)
	if got := must[[]int](t)(service.Route(service.Trap{Gas: 3})); !slices.Equal(got, []int{4, 6, 12, 12, 12, 7, 8}) {
		t.Errorf("%v", got)
	}
}

// arbitrary are ints with all limits of this layer among them.
func arbitrary() []int {
	return []int{math.MinInt, -1 << 40, -1, 0, 1, 2, 3, 4, 12, 13, 359, 719, 720, 1000, 1001, 65535, 65536, 1 << 30, 1<<30 + 1, 1 << 40, 1<<40 + 1, math.MaxInt}
}

// All functions end without a panic, whatever the arguments are, and have zero values with an error.
func TestP1AnyTraps(t *testing.T) {
	for _, x := range arbitrary() {
		for _, y := range arbitrary() {
			for bits := range 32 {
				trap := service.Trap{Main: bits&1 > 0, Kicker: bits&2 > 0, Vent: bits&4 > 0, Purge: bits&8 > 0, Door: bits&16 > 0, Pressure: x, Gas: y, Pig: (x ^ y) % 3}
				if got, e := service.Step(trap, y); e != api.OK && got != (service.Trap{}) {
					t.Errorf("Step: %+v %v", got, e)
				}
				if got, e := service.Route(trap); e != api.OK && got != nil {
					t.Errorf("Route: %v %v", got, e)
				}
				if service.Safe(trap) && service.CheckTrap(trap) != api.OK {
					t.Errorf("%+v is safe", trap)
				}
			}
		}
	}
}

func TestP1AnyTelegrams(t *testing.T) {
	d := newDice(71)
	for _, x := range arbitrary() {
		for _, y := range arbitrary() {
			if got, e := service.Pack(service.Telegram{Tracker: x, Time: y, Place: y, Battery: x}); e != api.OK && got != [24]byte{} {
				t.Errorf("Pack: %x %v", got, e)
			}
			if got, e := service.Reconcile([]api.Finding{seen(x, y), seen(5, y)}, []api.Finding{seen(y, x)}, y); e != api.OK && got != nil {
				t.Errorf("Reconcile: %v %v", got, e)
			}
			var b [24]byte
			for i := range b {
				b[i] = byte(d.from(0, 255))
			}
			if got, e := service.Unpack(b); e == api.OK || got != (service.Telegram{}) {
				t.Errorf("Unpack: %+v %v", got, e)
			}
		}
	}
}

// scribbled returns a text with some of its bytes replaced, taken away or put in twice.
func (d dice) scribbled(s string) string {
	for range d.from(1, 4) {
		at := d.from(0, len(s))
		end := min(len(s), at+d.from(0, 20))
		s = s[:at] + d.oneOf("", " ", "\n", "#", "\x00", "é", "\xff", s[at:end]+s[at:end]) + s[end:]
	}
	return s
}

func TestP1AnyTexts(t *testing.T) {
	d := newDice(72)
	book := performed(t, long()...)
	texts := []string{"", "\n", " ", strings.Repeat("\n", 500), strings.Repeat(" ", 500), strings.Repeat("a", 500), book.Ledger(), must[string](t)(book.Papers("r2")), strings.Join(long(), "\n")}
	for range 2000 {
		text := d.scribbled(texts[d.IntN(len(texts))])
		if got, e := service.Check(text); e != api.OK && fmt.Sprint(got) != fmt.Sprint(service.History{}) {
			t.Errorf("Check(%q): %+v %v", text, got, e)
		}
		b, n := service.Resume(text)
		if n < 0 || n > len(text) || b.Ledger() != text[:n] {
			t.Errorf("Resume(%q): %d", text, n)
		}
		if _, line, e := b.Run(text); (e == api.OK) != (line == 0) {
			t.Errorf("Run(%q): line %d, error %v", text, line, e)
		}
		line, _, _ := strings.Cut(text, "\n")
		service.Digest(1, text)
		before := shot(book)
		if e := book.Do(line); e != api.OK && shot(book) != before {
			t.Errorf("Do(%q): %v", line, e)
		}
		if got, e := book.Item(line); e != api.OK && fmt.Sprint(got) != fmt.Sprint(service.Item{}) {
			t.Errorf("Item(%q): %+v %v", line, got, e)
		}
		if got, e := book.Trace(line); e != api.OK && got != nil {
			t.Errorf("Trace(%q): %v %v", line, got, e)
		}
		if got, e := book.Papers(line); e != api.OK && got != "" {
			t.Errorf("Papers(%q): %v %v", line, got, e)
		}
		book.Answer(text)
	}
}
