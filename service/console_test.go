package service_test

import (
	"strings"
	"testing"

	"wallgauge/api"
	"wallgauge/service"
)

// answers fails the test if a line has another answer.
func answers(t *testing.T, b *service.Book, line, want string) {
	t.Helper()
	if got := b.Answer(line); got != want {
		t.Errorf("%q: %q, not %q", line, got, want)
	}
}

func TestP10_1AnswerExample(t *testing.T) {
	b := service.New()
	for _, line := range append(people(), "block b1 ann 00000000000000ff", "find f1 bob 3200 b1") {
		answers(t, b, line, "ok")
	}
	for _, x := range [][2]string{
		{"decide f1 dan cut", "error 103"}, {"dig f1 cy 3000", "ok"}, {"decide f1 dan cut", "ok"}, {"sign f1 dan", "error 101"}, {"sign f1 eve", "ok"}, {"report r1 f1", "ok"},
		{"trace r1", "b1"}, {"show f1", "3 3200 3000"}, {"suspects", ""}, {"withdraw b1", "ok"}, {"suspects", "r1"}, {"show f1", "4 3200 3000"}, {"items", "f1"},
	} {
		answers(t, b, x[0], x[1])
	}
}

func TestP10_1Answer(t *testing.T) {
	answers(t, service.New(), "items", "")
	answers(t, service.New(), "suspects", "")
	b := performed(t, long()...)
	for line, want := range map[string]string{
		"items": "f1 f2 f3 f4", "suspects": "r1 r2 r3", "trace r1": "b-2 b3", "show f1": "4 3100 0", "show f2": "0 12 -1", "show f3": "4 99999999 -1",
		"trace r4": "error 5", "trace f1": "error 5", "show r1": "error 5", "show f5": "error 5",
		"": "error 2", " ": "error 2", "#": "error 2", "x": "error 2", "Items": "error 2", "items ": "error 2", " items": "error 2", "items f1": "error 2", "suspects r1": "error 2",
		"trace": "error 2", "trace ": "error 2", "trace R1": "error 2", "trace r1 r2": "error 2", "trace r1 ": "error 2", "show": "error 2", "show F1": "error 2", "show f1 f2": "error 2", "show  f1": "error 2",
		"trace " + strings.Repeat("r", 24): "error 5", "trace " + strings.Repeat("r", 25): "error 2", "show " + strings.Repeat("r", 396): "error 4", "items" + strings.Repeat(" ", 396): "error 4",
		"hand ann run": "error 8", "sign f1 dan": "error 100", "decide f2 cy cut": "error 101", "report r5 f2": "error 103", "dig f9 cy 1": "error 5",
	} {
		before := shot(b)
		answers(t, b, line, want)
		if shot(b) != before {
			t.Errorf("%q changes %s", line, before)
		}
	}
	for _, line := range badForms() {
		if line != "items" && line != "suspects" && line != "trace r1" && line != "show f1" {
			answers(t, b, line, "error 2")
		}
	}
}

// question returns a line that often is a question.
func (d dice) question() string {
	return d.oneOf("items", "suspects", "show "+d.among("f1 f2 f3 f4 f5 F1"), "trace "+d.among("r1 r2 r3 r4 r5 r6 r7 r8"), "show", "items items")
}

func TestP10_1AnswersOfStories(t *testing.T) {
	d := newDice(61)
	stories(t, 61, 40, func(b *service.Book, m *model, line string) {
		for _, x := range []string{line, d.question(), d.question(), d.question()} {
			want, _ := m.reply(x)
			answers(t, b, x, want)
		}
	})
}

// runs fails the test if a script has other answers.
func runs(t *testing.T, b *service.Book, script, want string, wantLine int, wantError api.Errno) {
	t.Helper()
	if got, line, e := b.Run(script); got != want || line != wantLine || e != wantError {
		t.Errorf("%.100q: %.100q, line %d, error %v, not %.100q, line %d, error %v", script, got, line, e, want, wantLine, wantError)
	}
}

func TestP10_1Run(t *testing.T) {
	runs(t, service.New(), "", "", 0, api.OK)
	runs(t, service.New(), "\n\n\n", "", 0, api.OK)
	runs(t, service.New(), "#\n# x\n#hand ann run", "", 0, api.OK)
	runs(t, service.New(), "items", "\n", 0, api.OK)
	runs(t, service.New(), "items\nsuspects\n", "\n\n", 0, api.OK)
	runs(t, service.New(), "hand ann run\nhand ann run\nitems\n", "ok\nerror 8\n", 2, api.ErrTwice)
	runs(t, service.New(), "\n# x\n\nhand ann run\n#\nitems\n\nx\nhand bob run\n", "ok\n\nerror 2\n", 8, api.ErrForm)
	runs(t, service.New(), "show f1", "error 5\n", 1, api.ErrNone)
	runs(t, service.New(), "hand ann run\n #\n", "ok\nerror 2\n", 2, api.ErrForm)
	runs(t, service.New(), "hand ann run\r\n", "error 2\n", 1, api.ErrForm)
	runs(t, service.New(), "hand ann run\n"+strings.Repeat("x", 401), "ok\nerror 4\n", 2, api.ErrSize)
	runs(t, performed(t, example()...), "trace r1\nshow f1\nsuspects\nitems", "b1\n4 3200 3000\nr1\nf1\n", 0, api.OK)
}

// Names may be the words of an answer: that is no error.
func TestP10_1RunOfNamesLikeErrors(t *testing.T) {
	b := performed(t, append(people(), "block error ann 0000000000000000", "block 7 ann 0000000000000000", "find error bob 1 error 7", "find 5 bob 1 error")...)
	for _, x := range []string{"error", "5"} {
		perform(t, b, "decide "+x+" dan watch", "sign "+x+" eve")
	}
	perform(t, b, "report error error", "report 9 5", "withdraw error")
	runs(t, b, "items\ntrace error\nsuspects\nshow error\n", "error 5\nerror 7\nerror 9\n4 1 -1\n", 0, api.OK)
}

func TestP10_1LongScripts(t *testing.T) {
	longest := strings.Repeat("items\n", api.MaxText/6) + "####"
	if len(longest) != 65536 {
		t.Fatalf("%d bytes", len(longest))
	}
	runs(t, service.New(), longest, strings.Repeat("\n", api.MaxText/6), 0, api.OK)
	b := performed(t, example()...)
	before := shot(b)
	for _, script := range []string{"hand fay run\n" + longest, longest + "#", strings.Repeat("\n", 65537), "x" + strings.Repeat("\n", 1<<20)} {
		runs(t, b, script, "", 0, api.ErrSize)
	}
	if shot(b) != before {
		t.Errorf("a long script changes %s to %s", before, shot(b))
	}
}

func TestP10_9Scripts(t *testing.T) {
	d := newDice(62)
	whole, ended := 0, 0
	stories(t, 62, 60, func(b *service.Book, m *model, line string) {
		lines := []string{line, "", d.command(), "# " + line, d.question(), d.command()}[:d.from(1, 6)]
		one, _ := service.Resume(b.Ledger())
		want, wantLine, wantError := oneByOne(t, one, m, lines)
		runs(t, b, strings.Join(lines, "\n")+d.oneOf("", "\n"), want, wantLine, wantError)
		if !service.Same(one, b) || shot(one) != shot(b) {
			t.Fatalf("%q: %s, not %s", lines, shot(b), shot(one))
		}
		if wantError == api.OK {
			whole++
		} else {
			ended++
		}
	})
	if whole < 300 || ended < 300 {
		t.Errorf("%d scripts are whole, %d end", whole, ended)
	}
}

// oneByOne answers lines up to the first one with an error, which must not change anything.
func oneByOne(t *testing.T, b *service.Book, m *model, lines []string) (answers string, line int, e api.Errno) {
	t.Helper()
	for i, x := range lines {
		if x == "" || x[0] == '#' {
			continue
		}
		before := shot(b)
		answer := b.Answer(x)
		answers += answer + "\n"
		if want, e := m.reply(x); answer != want {
			t.Fatalf("%q: %q, not %q", x, answer, want)
		} else if e != api.OK && shot(b) != before {
			t.Fatalf("%q, with %q, changes %s to %s", x, answer, before, shot(b))
		} else if e != api.OK {
			return answers, i + 1, e
		}
	}
	return answers, 0, api.OK
}
