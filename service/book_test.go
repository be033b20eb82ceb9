package service_test

import (
	"fmt"
	"slices"
	"strings"
	"testing"

	"wallgauge/api"
	"wallgauge/service"
)

// command returns a line that is often a command that is allowed in a story.
func (d dice) command() string {
	item, block, depth := d.among("f1 f2 f3 f4"), d.among("b1 b2 b3 b4 b5 b6 b7 b8 b9"), d.among("0 7 12 3200 4000 5000 99999999 07 100000000")
	reader, signer := d.among("bob bob bob bob bob bob ann zed"), d.among("dan dan dan eve eve eve fay zed")
	switch d.from(0, 24) {
	case 0:
		return "block " + block + " " + d.among("ann ann ann bob zed") + " " + d.among("00000000000000ff 0123456789abcdef fedcba9876543210 000000000000000g")
	case 1:
		return "find " + d.among("f4 f5 f6 f7") + " " + reader + " " + depth + " " + wordsOf(d.some("b1 b2 b3 b4 b5 b6 b7 b8 b9", 2)...)
	case 2, 3, 4, 5:
		return "again " + item + " " + reader + " " + depth + " " + wordsOf(d.some("b1 b2 b3 b4 b5 b6 b7 b8", 2)...)
	case 6, 7:
		return "dig " + item + " " + d.among("cy cy cy gus zed bob") + " " + depth
	case 8, 9, 10, 11:
		return "decide " + item + " " + signer + " " + d.among("watch sleeve cut cut cut Cut")
	case 12:
		return "hand " + d.among("ann fay gus hal zed ian jim kay lea") + " " + d.among("run read dig sign Run")
	case 13:
		return d.oneOf("withdraw "+block, "items")
	case 14, 15, 16, 17:
		return "report " + d.among("r1 r2 r3 r4 r5 r6 r7 r8") + " " + wordsOf(d.some("f1 f2 f3 f4 f5", 2)...)
	}
	return "sign " + item + " " + signer
}

// some returns one to most of the words of a text, seldom the same one twice.
func (d dice) some(words string, most int) []string {
	l := strings.Fields(words)
	d.Shuffle(len(l), func(i, k int) { l[i], l[k] = l[k], l[i] })
	l = l[:d.from(1, most)]
	if d.from(0, 9) == 0 {
		l = append(l, l[0])
	}
	return l
}

// stories calls a test with each command of many orders of commands, with a book and a model in which those before were performed.
func stories(t *testing.T, seed uint64, count int, test func(b *service.Book, m *model, line string)) {
	t.Helper()
	d := newDice(seed)
	for range count {
		b, m := service.New(), newModel()
		start := people()
		for _, x := range strings.Fields("b1 b2 b3 b4 b5 b6 b7 b8") {
			start = append(start, "block "+x+" ann 0000000000000000")
		}
		start = append(start, "find f1 bob 1 b1", "find f2 bob 2 b2 b3", "find f3 bob 3 b1 b4")
		for _, line := range start {
			m.do(line)
		}
		perform(t, b, start...)
		for range 150 {
			test(b, m, d.command())
		}
	}
}

func TestP10_1Do(t *testing.T) {
	results := map[string]int{}
	stories(t, 21, 120, func(b *service.Book, m *model, line string) {
		before := shot(b)
		got, want := b.Do(line), m.do(line)
		if got != want {
			t.Fatalf("%q: error %v, not %v\n%s", line, got, want, before)
		}
		results[fmt.Sprint(strings.Fields(line)[0], " ", int(got))]++
		if after := shot(b); got != api.OK && after != before {
			t.Fatalf("%q, with error %v, changes %s to %s", line, got, before, after)
		} else if after != m.shot() {
			t.Fatalf("behind %q there is %s, not %s", line, after, m.shot())
		}
	})
	for _, x := range []string{
		"hand 0", "hand 2", "hand 8", "hand 9", "block 0", "block 2", "block 8", "block 101", "find 0", "find 2", "find 5", "find 8", "find 101", "find 103",
		"again 0", "again 2", "again 5", "again 8", "again 100", "again 101", "again 103", "dig 0", "dig 2", "dig 5", "dig 100", "dig 101",
		"decide 0", "decide 2", "decide 5", "decide 100", "decide 101", "decide 103", "sign 0", "sign 5", "sign 100", "sign 101",
		"withdraw 0", "withdraw 5", "withdraw 100", "report 0", "report 5", "report 8", "report 103",
	} {
		if results[x] == 0 {
			t.Errorf("there is no %q", x)
		}
	}
}

// The constants are the numbers of the chapter.
func TestP10_1States(t *testing.T) {
	if got := []int{service.Found, service.Dug, service.Decided, service.Final, service.Suspect}; !slices.Equal(got, []int{0, 1, 2, 3, 4}) {
		t.Errorf("states are %v", got)
	}
	if got := []int{service.Runner, service.Reader, service.Digger, service.Signer}; !slices.Equal(got, []int{0, 1, 2, 3}) {
		t.Errorf("roles are %v", got)
	}
}

func TestP10_1DoExample(t *testing.T) {
	b := performed(t, append(people(), "block b1 ann 00000000000000ff", "find f1 bob 3200 b1")...)
	refuses(t, b, "decide f1 dan cut", api.ErrHeld)
	perform(t, b, "dig f1 cy 3000", "decide f1 dan cut")
	refuses(t, b, "sign f1 dan", api.ErrHand)
	perform(t, b, "sign f1 eve", "report r1 f1")
	want := []service.Item{{Name: "f1", State: service.Final, Read: 3200, Dug: 3000, Blocks: []string{"b1"}, Word: "cut", By: "dan", Signed: "eve"}}
	if got := b.Items(); fmt.Sprintf("%+v", got) != fmt.Sprintf("%+v", want) {
		t.Errorf("%+v, not %+v", got, want)
	}
}

// The errors of each command come in the order of its list.
func TestP10_1OrderOfErrors(t *testing.T) {
	b := performed(t, append(people(),
		"hand flo run", "hand gil read", "hand hal sign", "block b1 ann 0000000000000000", "block b2 ann 0000000000000000", "block bad ann 0000000000000000",
		"find new bob 1 b1", "find dug bob 1 b1", "dig dug cy 1", "find old bob 1 bad", "withdraw bad",
		"find set bob 1 b1", "decide set dan watch", "find end bob 1 b1", "decide end dan watch", "sign end eve", "report r1 end")...)
	for line, want := range map[string]api.Errno{
		"hand ann run": api.ErrTwice, "hand zed run": api.ErrFull,
		"block b1 zed 0000000000000000": api.ErrTwice, "block b9 zed 0000000000000000": api.ErrHand, "block b9 bob 0000000000000000": api.ErrHand,
		"find new zed 1 b9": api.ErrTwice, "find f9 zed 1 b9": api.ErrHand, "find f9 ann 1 b9": api.ErrHand,
		"find f9 bob 1 b1 b1 b9": api.ErrTwice, "find f9 bob 1 b1 b9 b1": api.ErrNone, "find f9 bob 1 b9 bad": api.ErrNone, "find f9 bob 1 bad bad": api.ErrHeld, "find f9 bob 1 b1 bad b9": api.ErrHeld, "find f9 bob 1 b1 b2 b1 bad": api.ErrTwice,
		"again f9 zed 1 b9": api.ErrNone, "again new zed 1 b9": api.ErrState, "again dug bob 1 b1": api.ErrState, "again set bob 1 b1": api.ErrState, "again end bob 1 b1": api.ErrState,
		"again old zed 1 b9": api.ErrHand, "again old cy 1 b9": api.ErrHand, "again old bob 1 b9": api.ErrNone, "again old bob 1 b1 b1": api.ErrTwice, "again old bob 1 bad": api.ErrHeld,
		"dig f9 zed 1": api.ErrNone, "dig dug zed 1": api.ErrState, "dig set cy 1": api.ErrState, "dig end cy 1": api.ErrState, "dig old cy 1": api.ErrState, "dig new zed 1": api.ErrHand, "dig new dan 1": api.ErrHand,
		"decide f9 zed cut": api.ErrNone, "decide set zed cut": api.ErrState, "decide end dan watch": api.ErrState, "decide old dan watch": api.ErrState, "decide new zed cut": api.ErrHand, "decide new cy cut": api.ErrHand, "decide new dan cut": api.ErrHeld,
		"sign f9 zed": api.ErrNone, "sign new dan": api.ErrState, "sign dug dan": api.ErrState, "sign end zed": api.ErrState, "sign old dan": api.ErrState, "sign set zed": api.ErrHand, "sign set bob": api.ErrHand, "sign set dan": api.ErrHand,
		"withdraw b9": api.ErrNone, "withdraw bad": api.ErrState,
		"report r1 f9": api.ErrTwice, "report r2 f9": api.ErrNone, "report r2 new f9": api.ErrHeld, "report r2 end end new": api.ErrTwice, "report r2 end f9 end": api.ErrNone, "report r2 new new": api.ErrHeld,
		"report r2 dug": api.ErrHeld, "report r2 old": api.ErrHeld, "report r2 set": api.ErrHeld,
	} {
		refuses(t, b, line, want)
	}
}

// badForms are lines that are no commands, whatever is known.
func badForms() []string {
	out := []string{"", " ", "hand", "hands", "Hand ann run", "hand ann", "hand ann boss", "hand ann run run", "items", "suspects", "trace r1", "show f1", "#", "find", "withdraw", "report", "report r1", "find f1 bob 1", "again f1 bob 1",
		"block b1 ann", "block b1 ann 000000000000000", "block b1 ann 00000000000000000", "block b1 ann 000000000000000A", "block b1 ann 000000000000000g", "block b1 ann 0x00000000000000", "block b1 ann -000000000000000",
		"decide f1 dan", "decide f1 dan cuts", "decide f1 dan repair", "decide f1 dan cut cut", "sign f1", "sign f1 dan eve", "withdraw b1 b2", "dig f1 cy", "dig f1 cy 1 1", "\xff", "withdraw \xff", "withdraw b1\x00"}
	for _, x := range []string{"", "00", "01", "-1", "+1", "1.0", "1e3", "123456789", "000000000", "a", "0x1", "1_0", "١"} {
		out = append(out, "dig f1 cy "+x, "find f1 bob "+x+" b1", "again f1 bob "+x+" b1")
	}
	for _, x := range []string{"", "A", "b_1", "b.1", "b:1", "é", "a\t", "abcdefghijklmnopqrstuvwxy", "`", "{", "/", ","} {
		out = append(out, "hand "+x+" run", "block "+x+" ann 0000000000000000", "block b9 "+x+" 0000000000000000", "find "+x+" bob 1 b1", "find f9 "+x+" 1 b1", "find f9 bob 1 "+x, "find f9 bob 1 b1 "+x, "find f9 bob 1 "+x+" b1",
			"again "+x+" bob 1 b1", "again old "+x+" 1 b1", "again old bob 1 b1 "+x, "dig "+x+" cy 1", "dig new "+x+" 1", "decide "+x+" dan watch", "decide new "+x+" watch", "sign "+x+" dan", "sign f1 "+x, "withdraw "+x, "report "+x+" f1", "report r9 "+x, "report r9 f1 "+x)
	}
	return out
}

func TestP10_1DoForm(t *testing.T) {
	b := performed(t, example()...)
	for _, line := range badForms() {
		refuses(t, b, line, api.ErrForm)
	}
	for _, line := range append(example(), "again f1 bob 3200 b1") {
		for at := range len(line) {
			if line[at] == ' ' {
				refuses(t, b, line[:at]+" "+line[at:], api.ErrForm)
				refuses(t, b, line[:at]+"\t"+line[at+1:], api.ErrForm)
			}
		}
		for _, x := range []string{" " + line, line + " ", line + "\n", "\n" + line, line + "\r", "x" + line} {
			refuses(t, b, x, api.ErrForm)
		}
	}
}

func TestP10_1Names(t *testing.T) {
	b := performed(t, "hand abcdefghijklmnopqrstuvwx run", "hand yz0123456789- read", "hand - dig", "hand 0 sign", "hand run sign")
	perform(t, b, "block block abcdefghijklmnopqrstuvwx 0123456789abcdef", "block -- abcdefghijklmnopqrstuvwx fedcba9876543210", "find find yz0123456789- 0 block --", "find 0 yz0123456789- 99999999 --", "dig 0 - 12345678", "decide 0 run cut", "sign 0 0", "report - 0")
	if got := b.Blocks(); got[0].Digest != 0x0123456789abcdef || got[1].Digest != 0xfedcba9876543210 {
		t.Errorf("the blocks are %+v", got)
	}
	if got := must[service.Item](t)(b.Item("0")); got.Read != 99999999 || got.Dug != 12345678 {
		t.Errorf("the finding is %+v", got)
	}
}

// numbered returns n names.
func numbered(letter string, n int) []string {
	out := make([]string, n)
	for i := range out {
		out[i] = fmt.Sprint(letter, i)
	}
	return out
}

// filled returns a book with n blocks, n findings that are Final, and n reports.
func filled(t *testing.T, n int) *service.Book {
	t.Helper()
	b := performed(t, people()...)
	for i := range n {
		perform(t, b, fmt.Sprintf("block b%d ann %016x", i, i))
	}
	for i := range n {
		perform(t, b, fmt.Sprintf("find f%d bob %d b%d", i, i, i), fmt.Sprintf("decide f%d dan watch", i), fmt.Sprintf("sign f%d eve", i))
	}
	for i := range n {
		perform(t, b, fmt.Sprintf("report r%d f%d", i, n-1-i))
	}
	return b
}

func TestP10_1Full(t *testing.T) {
	b := filled(t, 63)
	perform(t, b, "block b63 ann 0000000000000000", "find f63 bob 1 b63", "report r63 f0", "hand h6 run", "hand h7 run", "hand h8 run")
	for line, want := range map[string]api.Errno{
		"hand h9 run": api.ErrFull, "block b64 ann 0000000000000000": api.ErrFull, "block b64 bob 0000000000000000": api.ErrHand, "block b63 ann 0000000000000000": api.ErrTwice,
		"find f64 bob 1 b0": api.ErrFull, "find f64 bob 1 b64": api.ErrNone, "find f64 bob 1 b0 b0": api.ErrTwice, "find f64 ann 1 b0": api.ErrHand, "find f63 bob 1 b0": api.ErrTwice,
		"report r64 f0": api.ErrFull, "report r64 f64": api.ErrNone, "report r64 f0 f0": api.ErrTwice, "report r64 f63": api.ErrHeld, "report r63 f0": api.ErrTwice,
	} {
		refuses(t, b, line, want)
	}
	perform(t, b, "withdraw b63", "again f63 bob 1 b0") // a finding that there is needs no room
	if len(b.Hands()) != 8 || len(b.Blocks()) != 64 || len(b.Items()) != 64 || len(b.Reports()) != 64 {
		t.Errorf("there is %s", shot(b))
	}
}

func TestP10_1MostBlocksOfAFinding(t *testing.T) {
	b := filled(t, 17)
	eight, nine := wordsOf(numbered("b", 8)...), wordsOf(numbered("b", 9)...)
	perform(t, b, "find new bob 1 "+eight, "withdraw b16", "again f16 bob 1 "+eight)
	refuses(t, b, "find more bob 1 "+nine, api.ErrFull)
	refuses(t, b, "find more bob 1 "+nine+" b16", api.ErrHeld)
	refuses(t, b, "find more bob 1 "+nine+" b0", api.ErrTwice)
	refuses(t, b, "find more bob 1 "+nine+" b17", api.ErrNone)
	perform(t, b, "withdraw b15")
	refuses(t, b, "again f15 bob 1 "+nine, api.ErrFull)
	refuses(t, b, "again f15 bob 1 "+nine+" b17", api.ErrNone)
}

func TestP10_1MostFindingsOfAReport(t *testing.T) {
	b := filled(t, 18)
	sixteen, more := wordsOf(numbered("f", 16)...), wordsOf(numbered("f", 17)...)
	perform(t, b, "report most "+sixteen, "find new bob 1 b0")
	refuses(t, b, "report more "+more, api.ErrFull)
	refuses(t, b, "report more "+more+" f0", api.ErrTwice)
	refuses(t, b, "report more "+more+" f18", api.ErrNone)
	refuses(t, b, "report more "+more+" new", api.ErrHeld)
	refuses(t, b, "report most "+more, api.ErrTwice)
}

func TestP10_1LongLines(t *testing.T) {
	b := performed(t, append(people(), "block b1 ann 0000000000000000")...)
	items := make([]string, 16)
	for i := range items {
		items[i] = fmt.Sprintf("%s%02d", strings.Repeat("f", 21), i)
		perform(t, b, "find "+items[i]+" bob 1 b1", "decide "+items[i]+" dan watch", "sign "+items[i]+" eve")
	}
	findings := " " + wordsOf(items...)
	name := strings.Repeat("r", 400-len("report ")-len(findings))
	refuses(t, b, "report "+name+"r"+findings, api.ErrSize)
	perform(t, b, "report "+name+findings)
	for _, x := range []string{"", " ", "x", "hand ann run"} {
		refuses(t, b, x+strings.Repeat(" ", 401-len(x)), api.ErrSize)
		refuses(t, b, x+strings.Repeat(" ", 400-len(x)), api.ErrForm)
	}
	refuses(t, b, strings.Repeat("a", 1<<20), api.ErrSize)
}

// What was decided on a finding stays when it becomes Suspect, and goes when it is read again.
func TestP10_1Again(t *testing.T) {
	b := performed(t, append(example(), "block b2 ann 0000000000000001", "block b3 ann 0000000000000002")...)
	want := service.Item{Name: "f1", State: service.Suspect, Read: 3200, Dug: 3000, Blocks: []string{"b1"}, Word: "cut", By: "dan", Signed: "eve"}
	if got := must[service.Item](t)(b.Item("f1")); fmt.Sprintf("%+v", got) != fmt.Sprintf("%+v", want) {
		t.Errorf("%+v, not %+v", got, want)
	}
	perform(t, b, "again f1 bob 0 b3 b2")
	want = service.Item{Name: "f1", State: service.Found, Read: 0, Dug: -1, Blocks: []string{"b3", "b2"}}
	if got := must[service.Item](t)(b.Item("f1")); fmt.Sprintf("%+v", got) != fmt.Sprintf("%+v", want) {
		t.Errorf("%+v, not %+v", got, want)
	}
	refuses(t, b, "sign f1 eve", api.ErrState)
	refuses(t, b, "decide f1 eve cut", api.ErrHeld)
	perform(t, b, "decide f1 eve watch", "sign f1 dan") // dan may sign now
}

// history is what the lines of a ledger say of one finding since it was last read.
type history struct {
	dug             bool
	by, signed      string
	decided, signer int
}

// told returns what the ledger says of a finding.
func told(m *model, item string) history {
	var h history
	for i, command := range m.commands {
		w := strings.Fields(command)
		if w[1] != item {
			continue
		}
		switch w[0] {
		case "find", "again":
			h = history{}
		case "dig":
			h.dug = true
		case "decide":
			h.by, h.decided = w[2], i+1
		case "sign":
			h.signed, h.signer = w[2], i+1
		}
	}
	return h
}

func TestP10_5Decisions(t *testing.T) {
	final := 0
	stories(t, 22, 100, func(b *service.Book, m *model, line string) {
		before := b.Items()
		e := b.Do(line)
		if e != m.do(line) {
			t.Fatalf("%q: error %v", line, e)
		}
		role := map[string]int{}
		for _, h := range b.Hands() {
			role[h.Name] = h.Role
		}
		bad := map[string]bool{}
		for _, x := range b.Blocks() {
			bad[x.Name] = x.Withdrawn
		}
		for _, x := range b.Items() {
			if x.State != service.Final {
				continue
			}
			final++
			h := told(m, x.Name)
			if h.by == "" || h.signed == "" || h.by == h.signed || h.decided >= h.signer || h.by != x.By || h.signed != x.Signed || role[h.by] != service.Signer || role[h.signed] != service.Signer {
				t.Fatalf("%+v was decided and signed %+v", x, h)
			}
			if x.Word == "cut" && (!h.dug || x.Dug < 0) {
				t.Fatalf("%+v was not dug", x)
			}
			if slices.ContainsFunc(x.Blocks, func(name string) bool { return bad[name] }) {
				t.Fatalf("%+v has a block that was withdrawn", x)
			}
		}
		if w := strings.Fields(line); w[0] == "report" && e == api.OK {
			for _, x := range before {
				if slices.Contains(w[2:], x.Name) && x.State != service.Final {
					t.Fatalf("%q: %+v", line, x)
				}
			}
		}
	})
	if final < 1000 {
		t.Errorf("only %d findings are Final", final)
	}
}

func TestP10_6Withdrawals(t *testing.T) {
	withdrawn, suspects := 0, 0
	stories(t, 23, 100, func(b *service.Book, m *model, line string) {
		items := b.Items()
		if e := b.Do(line); e != m.do(line) {
			t.Fatalf("%q: error %v", line, e)
		} else if w := strings.Fields(line); e == api.OK && w[0] == "withdraw" {
			withdrawn++
			for i, x := range items {
				if slices.Contains(x.Blocks, w[1]) {
					items[i].State = service.Suspect
				}
			}
			if got := b.Items(); fmt.Sprint(got) != fmt.Sprint(items) {
				t.Fatalf("behind %q there are %+v, not %+v", line, got, items)
			}
		}
		bad := map[string]bool{}
		for _, x := range b.Blocks() {
			bad[x.Name] = x.Withdrawn
		}
		for _, r := range b.Reports() {
			blocks := must[[]string](t)(b.Trace(r.Name))
			want := slices.ContainsFunc(blocks, func(name string) bool { return bad[name] })
			if got := slices.Contains(b.Suspects(), r.Name); got != want {
				t.Fatalf("behind %q, %s with the blocks %v: %v", line, r.Name, blocks, got)
			} else if got {
				suspects++
			}
		}
	})
	if withdrawn < 50 || suspects < 50 {
		t.Errorf("%d blocks are withdrawn, %d reports suspect", withdrawn, suspects)
	}
}
