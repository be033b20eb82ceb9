package service_test

import (
	"fmt"
	"strings"
	"testing"

	"wallgauge/api"
	"wallgauge/service"
)

// entered returns the ledger of lines that were performed.
func entered(lines ...string) string {
	var out strings.Builder
	sum := uint64(0)
	for i, line := range lines {
		text := fmt.Sprintf("%d %s", i+1, line)
		sum = digest(sum, text)
		fmt.Fprintf(&out, "%s %016x\n", text, sum)
	}
	return out.String()
}

func TestP10_1Ledger(t *testing.T) {
	for n := range len(long()) + 1 {
		lines := long()[:n]
		if got, want := performed(t, lines...).Ledger(), entered(lines...); got != want {
			t.Errorf("%s, not %s", got, want)
		}
	}
}

func TestP10_1LedgerHasNoErrors(t *testing.T) {
	b := service.New()
	for _, line := range people() {
		b.Do("x")
		b.Do(line)
		b.Do(line)
		b.Answer("items")
		b.Run("suspects\nsign f1 dan\n")
	}
	if got, want := b.Ledger(), entered(people()...); got != want {
		t.Errorf("%s, not %s", got, want)
	}
}

// resumes fails the test if a ledger is not read so far, to the state behind these lines.
func resumes(t *testing.T, ledger string, bytes int, lines ...string) {
	t.Helper()
	b, n := service.Resume(ledger)
	if n != bytes {
		t.Fatalf("of %q %d bytes are read, not %d", ledger, n, bytes)
	}
	if want := performed(t, lines...); shot(b) != shot(want) || !service.Same(b, want) {
		t.Fatalf("behind %q there is %s, not %s", ledger, shot(b), shot(want))
	}
}

func TestP10_1Resume(t *testing.T) {
	first := entered("hand ann run")
	resumes(t, "", 0)
	resumes(t, first, len(first), "hand ann run")
	resumes(t, first+"x", len(first), "hand ann run")
	resumes(t, first+"\n", len(first), "hand ann run")
	resumes(t, first+first, len(first), "hand ann run")
	resumes(t, entered("hand ann run", "hand ann run"), len(first), "hand ann run") // the second one is an error
	resumes(t, entered("hand ann run", "items"), len(first), "hand ann run")
	resumes(t, entered("hand ann run", "block b1 bob 0000000000000000", "hand bob run"), len(first), "hand ann run")
	for _, x := range []string{
		"\n", " \n", "  \n", "1\n", "1 \n", "1 x\n", "1  \n", "hand ann run\n", "1 hand ann run\n", "x\n" + first, " " + first, "0" + first, "+" + first,
		entered("items"), entered(""), entered("#"), entered("hand ann run "), entered(" hand ann run"), entered(strings.Repeat("a", 401)),
		strings.ReplaceAll(first, "\n", "\r\n"), strings.ReplaceAll(first, "\n", " \n"), strings.ToUpper(first), strings.TrimSuffix(first, "\n"),
		fmt.Sprintf("0 hand ann run %016x\n", digest(0, "0 hand ann run")), fmt.Sprintf("2 hand ann run %016x\n", digest(0, "2 hand ann run")), fmt.Sprintf("01 hand ann run %016x\n", digest(0, "01 hand ann run")),
		fmt.Sprintf("1  hand ann run %016x\n", digest(0, "1  hand ann run")), fmt.Sprintf("1 hand ann run  %016x\n", digest(0, "1 hand ann run ")), fmt.Sprintf("1 hand ann run %016x\n", digest(0, "1 hand ann run ")), fmt.Sprintf("1 hand ann run %016x\n", digest(1, "1 hand ann run")),
		fmt.Sprintf("1 hand ann run %016X\n", digest(0, "1 hand ann run")), fmt.Sprintf("1 %016x\n", digest(0, "1")), fmt.Sprintf("%016x\n", digest(0, "")), fmt.Sprintf("hand ann run %016x\n", digest(0, "hand ann run")),
	} {
		resumes(t, x, 0)
	}
}

// A digest is written with all its digits, also if the first ones are 0.
func TestP10_1LowDigests(t *testing.T) {
	count := 0
	for i := range 400 {
		line := fmt.Sprintf("hand h%d run", i)
		ledger := entered(line)
		resumes(t, ledger, len(ledger), line)
		if strings.Contains(ledger, " 0") {
			count++
		}
	}
	if count == 0 {
		t.Error("no digest begins with 0")
	}
}

func TestP10_7Resume(t *testing.T) {
	steps := 0
	stories(t, 51, 40, func(b *service.Book, _ *model, line string) {
		b.Do(line)
		if steps++; steps%15 > 0 {
			return
		}
		ledger := b.Ledger()
		again, n := service.Resume(ledger)
		if n != len(ledger) || shot(again) != shot(b) || !service.Same(again, b) {
			t.Fatalf("of %q %d bytes are read, to %s", ledger, n, shot(again))
		}
		// Both go on in the same way, so what is not seen is the same, too.
		for _, next := range []string{"sign f1 dan", "sign f1 eve", "sign f2 dan", "sign f2 eve"} {
			other, _ := service.Resume(ledger)
			same, _ := service.Resume(ledger)
			perform := [2]api.Errno{other.Do(next), same.Do(next)}
			if perform[0] != perform[1] || !service.Same(other, same) {
				t.Fatalf("behind %q, %q: %v", ledger, next, perform)
			}
		}
	})
}

func TestP10_7CutLedgers(t *testing.T) {
	ledger, lines := performed(t, long()...).Ledger(), long()
	for at := range len(ledger) + 1 {
		whole := strings.Count(ledger[:at], "\n")
		resumes(t, ledger[:at], strings.LastIndex(ledger[:at], "\n")+1, lines[:whole]...)
	}
}

func TestP10_7LedgersWithAnotherByte(t *testing.T) {
	ledger, lines := performed(t, long()...).Ledger(), long()
	d := newDice(52)
	for at := range len(ledger) {
		whole := strings.Count(ledger[:at], "\n")
		begin := strings.LastIndex(ledger[:at], "\n") + 1
		for _, x := range []byte{'\n', ' ', '0', '1', 'f', byte(d.from(0, 255))} {
			if x != ledger[at] {
				resumes(t, replaced(ledger, at, x), begin, lines[:whole]...)
			}
		}
	}
}

func TestP10_7SamePapers(t *testing.T) {
	a := performed(t, long()...)
	b, _ := service.Resume(a.Ledger())
	for _, r := range a.Reports() {
		if got, want := must[string](t)(b.Papers(r.Name)), must[string](t)(a.Papers(r.Name)); got != want {
			t.Errorf("%s, not %s", got, want)
		}
	}
}

func TestP10_1Same(t *testing.T) {
	books := []*service.Book{nil, service.New()}
	start := append(people(), "block b1 ann 0000000000000000", "block b2 ann 0000000000000000", "find f1 bob 1 b1")
	for n := range start {
		books = append(books, performed(t, start[:n+1]...))
	}
	for _, more := range [][]string{{"withdraw b1"}, {"withdraw b1", "withdraw b2"}, {"withdraw b2", "withdraw b1"}, {"dig f1 cy 1"}, {"dig f1 cy 2"}, {"decide f1 dan watch"}, {"decide f1 eve watch"}, {"hand fay run"}, {"hand fay read"}, {"block b3 ann 0000000000000000"}, {"block b3 ann 0000000000000001"}} {
		books = append(books, performed(t, append(start[:len(start):len(start)], more...)...))
	}
	for i, a := range books {
		for k, b := range books {
			if got := service.Same(a, b); got != (i == k) {
				t.Errorf("%d and %d: %v", i, k, got)
			}
		}
		if a != nil {
			if b, _ := service.Resume(a.Ledger()); !service.Same(a, b) || !service.Same(b, a) {
				t.Errorf("%d is not the same as its ledger", i)
			}
		}
	}
}
