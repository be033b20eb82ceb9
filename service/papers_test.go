package service_test

import (
	"fmt"
	"slices"
	"strings"
	"testing"

	"wallgauge/api"
	"wallgauge/service"
)

// sealed returns lines with their digest behind them.
func sealed(lines string) string {
	return lines + fmt.Sprintf("digest %016x\n", digest(1, lines))
}

func TestP10_1Papers(t *testing.T) {
	b := performed(t, example()...)
	want := "report r1 f1\n6 block b1 ann 00000000000000ff\n7 find f1 bob 3200 b1\n8 dig f1 cy 3000\n9 decide f1 dan cut\n10 sign f1 eve\n11 report r1 f1\n12 withdraw b1\n"
	if got := must[string](t)(b.Papers("r1")); got != sealed(want) {
		t.Errorf("%s, not %s", got, sealed(want))
	}
	for _, name := range []string{"", "r", "r2", "f1", "b1", "R1"} {
		if got, e := b.Papers(name); e != api.ErrNone || got != "" {
			t.Errorf("%q: %q and error %v", name, got, e)
		}
	}
}

// The papers have blocks that a finding is not read from any more, and lines behind the report, but none of other findings and reports.
func TestP10_1PapersOfLongLines(t *testing.T) {
	b := performed(t, long()...)
	for report, want := range map[string]string{
		"r1": "6 7 8 10 14 18 19 20 21 24 25 26 34",
		"r2": "6 7 8 10 12 14 18 20 21 22 23 24 25 26 31 34",
		"r3": "6 7 8 11 12 15 16 17 20 22 23 28 29 30 32 34 35",
	} {
		papers := must[string](t)(b.Papers(report))
		var numbers []string
		for _, line := range must[service.History](t)(service.Check(papers)).Lines {
			number, command, _ := strings.Cut(line, " ")
			numbers = append(numbers, number)
			if fmt.Sprint(slices.Index(long(), command)+1) != number {
				t.Errorf("%s: %q", report, line)
			}
		}
		if got := wordsOf(numbers...); got != want {
			t.Errorf("%s: the lines %s, not %s", report, got, want)
		}
	}
}

// Things of different kinds that have the same name are different ones.
func TestP10_1PapersOfSameNames(t *testing.T) {
	b := performed(t, "hand 7 run", "hand 8 read", "hand 9 sign", "hand 1 sign", "block 8 7 0000000000000000", "block 7 7 0000000000000001", "block 1 7 0000000000000002",
		"find 7 8 1 8", "find 8 8 7 7", "decide 7 9 watch", "decide 8 9 watch", "sign 7 1", "sign 8 1", "report 8 7", "report 7 8", "withdraw 7", "withdraw 1")
	for report, want := range map[string]string{
		"8": "report 8 7\n5 block 8 7 0000000000000000\n8 find 7 8 1 8\n10 decide 7 9 watch\n12 sign 7 1\n14 report 8 7\n",
		"7": "report 7 8\n6 block 7 7 0000000000000001\n9 find 8 8 7 7\n11 decide 8 9 watch\n13 sign 8 1\n15 report 7 8\n16 withdraw 7\n",
	} {
		if got := must[string](t)(b.Papers(report)); got != sealed(want) {
			t.Errorf("%s, not %s", got, sealed(want))
		}
	}
	if got := b.Suspects(); !slices.Equal(got, []string{"7"}) {
		t.Errorf("suspects %v", got)
	}
}

func TestP10_1Check(t *testing.T) {
	items := wordsOf(numbered("f", 16)...)
	line := strings.Repeat("x", 400)
	for lines, want := range map[string]service.History{
		"report r f\n1 x\n":                               {Name: "r", Items: []string{"f"}, Lines: []string{"1 x"}},
		"report report report\n99999999 digest 0\n":       {Name: "report", Items: []string{"report"}, Lines: []string{"99999999 digest 0"}},
		"report - f f r\n1 1\n2 2\n10 !~ ~! A_\n":         {Name: "-", Items: []string{"f", "f", "r"}, Lines: []string{"1 1", "2 2", "10 !~ ~! A_"}},
		"report r " + items + "\n12345678 " + line + "\n": {Name: "r", Items: numbered("f", 16), Lines: []string{"12345678 " + line}},
		"report " + wordsOf(slices.Repeat([]string{strings.Repeat("a", 24)}, 17)...) + "\n5 x\n": {Name: strings.Repeat("a", 24), Items: slices.Repeat([]string{strings.Repeat("a", 24)}, 16), Lines: []string{"5 x"}},
	} {
		if got := must[service.History](t)(service.Check(sealed(lines))); fmt.Sprintf("%q", got) != fmt.Sprintf("%q", want) {
			t.Errorf("%q: %q, not %q", lines, got, want)
		}
	}
}

// badLines are lines of papers that do not have the form.
func badLines() []string {
	out := []string{"", "\n", "report r f\n", "1 x\n", "1 x\n2 x\n", "report r f\n\n1 x\n", "\nreport r f\n1 x\n", "report r f\n1 x\n\n", "report r f\n1 x\nreport r f\n", "report r f\nreport r f\n1 x\n", "report r f\n1 x\ndigest 0123456789abcdef\n"}
	for _, head := range []string{"", "report", "report ", "report r", "report r ", "report R f", "report r F", "report  r f", "report r  f", "report r f ", " report r f", "Report r f", "report r " + strings.Repeat("f", 25), "report " + strings.Repeat("r", 25) + " f", "report r " + wordsOf(numbered("f", 17)...), "report r f\r", "again r f"} {
		out = append(out, head+"\n1 x\n")
	}
	for _, line := range []string{"", " ", "1", "1 ", "x", "x 1", " 1 x", "1  x", "1 x ", "1 x  x", "0 x", "00 x", "01 x", "-1 x", "+1 x", "1.0 x", "123456789 x", "1\tx", "1 x\r", "1 x\ty", "1 x\x7f", "1 \x80", "1 \xff", "1 é", "1 \x00", "1 \x1f", "1 " + strings.Repeat("x", 401), "1 " + strings.Repeat("x ", 200) + "x", "2 x\n2 x", "2 x\n1 x", "2 x\n3 x\n3 x", "10 x\n9 x"} {
		out = append(out, "report r f\n"+line+"\n")
	}
	return out
}

func TestP10_1CheckForm(t *testing.T) {
	refused := func(text string, want api.Errno) {
		t.Helper()
		if got, e := service.Check(text); e != want || fmt.Sprintf("%+v", got) != fmt.Sprintf("%+v", service.History{}) {
			t.Errorf("%q: %+v and error %v, not %v", text, got, e, want)
		}
	}
	for _, lines := range badLines() {
		refused(sealed(lines), api.ErrForm)
		refused(lines+"digest 0123456789abcdef\n", api.ErrForm) // of both errors ErrForm comes first
	}
	good := "report r f\n1 x\n"
	sum := strings.TrimPrefix(sealed(good), good)
	for _, last := range []string{"", "\n", strings.TrimSuffix(sum, "\n"), sum + "\n", sum + "x", sum + sum, " " + sum, "digest\n", "digest \n", "Digest 0123456789abcdef\n", "digest 0123456789abcde\n", "digest 0123456789abcdef0\n", "digest 0123456789abcdeF\n", "digest 0123456789abcdeg\n", "digest  0123456789abcdef\n", "digest 0123456789abcdef \n", "digest 0123456789abcdef\r\n", "digest 01234567 89abcdef\n", "2 x\n"} {
		refused(good+last, api.ErrForm)
	}
	for _, last := range []string{"digest 0000000000000000\n", "digest 0123456789abcdef\n", fmt.Sprintf("digest %016x\n", digest(0, good)), fmt.Sprintf("digest %016x\n", digest(1, good+"digest "))} {
		refused(good+last, api.ErrSum)
	}
}

func TestP10_8CheckOfPapers(t *testing.T) {
	b, commands := performed(t, long()...), long()
	for _, r := range b.Reports() {
		got := must[service.History](t)(service.Check(must[string](t)(b.Papers(r.Name))))
		if got.Name != r.Name || !slices.Equal(got.Items, r.Items) {
			t.Errorf("%+v of %+v", got, r)
		}
		for _, line := range got.Lines {
			number, command, _ := strings.Cut(line, " ")
			if fmt.Sprint(slices.Index(commands, command)+1) != number {
				t.Errorf("%s: %q", r.Name, line)
			}
		}
	}
}

func TestP10_8PapersWithAnotherByte(t *testing.T) {
	b, d := performed(t, long()...), newDice(41)
	for _, report := range []string{"r1", "r2", "r3"} {
		papers := must[string](t)(b.Papers(report))
		for at := range len(papers) {
			for _, x := range []byte{'\n', ' ', '0', '9', 'a', 'f', 'r', '-', 'A', 0, 255, byte(d.from(0, 255))} {
				if x == papers[at] {
					continue
				}
				if got, e := service.Check(replaced(papers, at, x)); e != api.ErrForm && e != api.ErrSum || got.Name != "" {
					t.Errorf("%q: %+v and error %v", replaced(papers, at, x), got, e)
				}
			}
		}
		for at := range len(papers) {
			if got, e := service.Check(papers[:at]); e != api.ErrForm || got.Name != "" {
				t.Errorf("%q: %+v and error %v", papers[:at], got, e)
			}
		}
	}
}

// fromPapers returns a book in which the hands of another one are known, and the lines of papers were performed.
func fromPapers(t *testing.T, b *service.Book, papers string) *service.Book {
	t.Helper()
	out := service.New()
	for _, h := range b.Hands() {
		perform(t, out, "hand "+h.Name+" "+[]string{"run", "read", "dig", "sign"}[h.Role])
	}
	for _, line := range must[service.History](t)(service.Check(papers)).Lines {
		_, command, _ := strings.Cut(line, " ")
		perform(t, out, command)
	}
	return out
}

// sameReport fails the test if two books do not have the same report, with the same findings.
func sameReport(t *testing.T, a, b *service.Book, report string) {
	t.Helper()
	reports := []service.Report{}
	for _, book := range []*service.Book{a, b} {
		for _, r := range book.Reports() {
			if r.Name == report {
				reports = append(reports, r)
			}
		}
	}
	if len(reports) != 2 || !slices.Equal(reports[0].Items, reports[1].Items) {
		t.Fatalf("%s: %+v", report, reports)
	}
	for _, item := range reports[0].Items {
		got, want := must[service.Item](t)(b.Item(item)), must[service.Item](t)(a.Item(item))
		if fmt.Sprint(got) != fmt.Sprint(want) {
			t.Fatalf("%s: %+v, not %+v", report, got, want)
		}
	}
}

func TestP10_8FromPapers(t *testing.T) {
	count, steps := 0, 0
	stories(t, 42, 60, func(b *service.Book, _ *model, line string) {
		b.Do(line)
		if steps++; steps%10 > 0 {
			return
		}
		for _, r := range b.Reports() {
			sameReport(t, b, fromPapers(t, b, must[string](t)(b.Papers(r.Name))), r.Name)
			count++
		}
	})
	if count < 300 {
		t.Errorf("there are only %d papers", count)
	}
}
