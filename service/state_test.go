package service_test

import (
	"fmt"
	"slices"
	"testing"

	"wallgauge/api"
	"wallgauge/service"
)

func TestP10_1State(t *testing.T) {
	b := performed(t, long()...)
	if got, want := fmt.Sprint(b.Hands()), "[{ann 0} {bob 1} {cy 2} {dan 3} {eve 3} {fay 1}]"; got != want {
		t.Errorf("the hands are %s, not %s", got, want)
	}
	if got, want := fmt.Sprint(b.Blocks()), "[{b1 255 true} {b-2 81985529216486895 true} {b3 18446744073709551615 false} {b4 0 true}]"; got != want {
		t.Errorf("the blocks are %s, not %s", got, want)
	}
	want := "[{f1 4 3100 0 [b-2 b3] cut eve dan} {f2 0 12 -1 [b3]   } {f3 4 99999999 -1 [b-2] sleeve eve dan} {f4 4 7 -1 [b4 b3]   }]"
	if got := fmt.Sprint(b.Items()); got != want {
		t.Errorf("the findings are %s, not %s", got, want)
	}
	if got, want := fmt.Sprint(b.Reports()), "[{r1 [f1]} {r2 [f3 f1]} {r3 [f3 f2]}]"; got != want {
		t.Errorf("the reports are %s, not %s", got, want)
	}
}

func TestP10_1Item(t *testing.T) {
	b := performed(t, long()...)
	for _, want := range b.Items() {
		if got := must[service.Item](t)(b.Item(want.Name)); fmt.Sprint(got) != fmt.Sprint(want) {
			t.Errorf("%v, not %v", got, want)
		}
	}
	for _, name := range []string{"", "f", "f5", "b1", "r1", "F1", "f1 ", "f1 f2"} {
		if got, e := b.Item(name); e != api.ErrNone || fmt.Sprint(got) != fmt.Sprint(service.Item{}) {
			t.Errorf("%q: %+v and error %v", name, got, e)
		}
	}
}

func TestP10_1Trace(t *testing.T) {
	b := performed(t, long()...)
	for report, want := range map[string]string{"r1": "[b-2 b3]", "r2": "[b-2 b3]", "r3": "[b-2 b3]"} {
		if got := must[[]string](t)(b.Trace(report)); fmt.Sprint(got) != want {
			t.Errorf("%s: %v, not %s", report, got, want)
		}
	}
	for _, name := range []string{"", "r", "r4", "f1", "b1", "R1"} {
		if got, e := b.Trace(name); e != api.ErrNone || got != nil {
			t.Errorf("%q: %v and error %v", name, got, e)
		}
	}
}

func TestP10_1TraceAtTheTime(t *testing.T) {
	b := performed(t, example()...)
	if got := must[[]string](t)(b.Trace("r1")); !slices.Equal(got, []string{"b1"}) {
		t.Errorf("read once: %v", got)
	}
	perform(t, b, "block b2 ann 0000000000000000", "block b3 ann 0000000000000000", "again f1 bob 5 b3 b2")
	if got := must[[]string](t)(b.Trace("r1")); !slices.Equal(got, []string{"b2", "b3"}) {
		t.Errorf("read again: %v", got)
	}
}

func TestP10_1Suspects(t *testing.T) {
	b := performed(t, long()...)
	if got := b.Suspects(); !slices.Equal(got, []string{"r1", "r2", "r3"}) {
		t.Errorf("%v", got)
	}
	perform(t, b, "block b5 ann 0000000000000000", "again f3 bob 1 b5")
	if got := b.Suspects(); !slices.Equal(got, []string{"r1", "r2"}) {
		t.Errorf("f3 is read again: %v", got)
	}
	perform(t, b, "again f1 bob 1 b5")
	if got := b.Suspects(); len(got) != 0 {
		t.Errorf("f1 is read again: %v", got)
	}
}

// What is asked in a story is what the model says.
func TestP10_1Questions(t *testing.T) {
	stories(t, 31, 60, func(b *service.Book, m *model, line string) {
		if e := b.Do(line); e != m.do(line) {
			t.Fatalf("%q: error %v", line, e)
		}
		if got, want := b.Suspects(), m.suspects(); !slices.Equal(got, want) {
			t.Fatalf("behind %q: suspects %v, not %v", line, got, want)
		}
		for _, r := range m.reports {
			if got, want := must[[]string](t)(b.Trace(r)), m.trace(r); !slices.Equal(got, want) {
				t.Fatalf("behind %q: trace %s %v, not %v", line, r, got, want)
			}
			if got, want := must[string](t)(b.Papers(r)), m.papers(r); got != want {
				t.Fatalf("behind %q: papers %s, not %s", line, got, want)
			}
		}
	})
}

func TestP10_1NoBook(t *testing.T) {
	var b *service.Book
	for _, line := range append(example(), "", "items", "suspects", "show f1", "trace r1", "x") {
		if e := b.Do(line); e != api.ErrArg {
			t.Errorf("Do(%q): error %v", line, e)
		}
		if got := b.Answer(line); got != "error 1" {
			t.Errorf("Answer(%q): %q", line, got)
		}
		if got, n, e := b.Run(line); got != "" || n != 0 || e != api.ErrArg {
			t.Errorf("Run(%q): %q %d and error %v", line, got, n, e)
		}
	}
	if e := b.Do(string(make([]byte, 401))); e != api.ErrArg {
		t.Errorf("Do of a long line: error %v", e)
	}
	if got, n, e := b.Run(string(make([]byte, api.MaxText+1))); got != "" || n != 0 || e != api.ErrArg {
		t.Errorf("Run of a long script: %q %d and error %v", got, n, e)
	}
	if x, e := b.Item("f1"); e != api.ErrNone || fmt.Sprint(x) != fmt.Sprint(service.Item{}) {
		t.Errorf("Item: %+v and error %v", x, e)
	}
	if got, e := b.Trace("r1"); e != api.ErrNone || got != nil {
		t.Errorf("Trace: %v and error %v", got, e)
	}
	if got, e := b.Papers("r1"); e != api.ErrNone || got != "" {
		t.Errorf("Papers: %q and error %v", got, e)
	}
	if b.Hands() != nil || b.Blocks() != nil || b.Items() != nil || b.Reports() != nil || b.Suspects() != nil || b.Ledger() != "" {
		t.Errorf("%s", shot(b))
	}
}

func TestP10_1NewBook(t *testing.T) {
	b := service.New()
	if len(b.Hands())+len(b.Blocks())+len(b.Items())+len(b.Reports())+len(b.Suspects())+len(b.Ledger()) > 0 {
		t.Errorf("%s", shot(b))
	}
	perform(t, service.New(), example()...)
	if len(b.Hands()) > 0 {
		t.Errorf("another book's hands are %v", b.Hands())
	}
}
