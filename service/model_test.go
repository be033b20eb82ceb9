package service_test

import (
	"fmt"
	"regexp"
	"slices"
	"strconv"
	"strings"

	"wallgauge/api"
	"wallgauge/service"
)

// shot returns the whole state of a book as a text.
func shot(b *service.Book) string {
	return fmt.Sprintf("%+v\n%+v\n%+v\n%+v\n%s", b.Hands(), b.Blocks(), b.Items(), b.Reports(), b.Ledger())
}

// model is a book as the tests see it: names in their order, and what is known by a name.
type model struct {
	hands, blocks, items, reports []string
	roles                         map[string]string
	digests                       map[string]string
	withdrawn                     map[string]bool
	findings                      map[string]service.Item
	contents                      map[string][]string
	commands                      []string
	ledger                        string
	sum                           uint64 // the digest of the ledger's last line
}

func newModel() *model {
	return &model{roles: map[string]string{}, digests: map[string]string{}, withdrawn: map[string]bool{}, findings: map[string]service.Item{}, contents: map[string][]string{}}
}

// form returns a regular expression for a form.
func form(s string) *regexp.Regexp {
	name := "[a-z0-9-]{1,24}"
	for _, c := range [][2]string{{"NAMES", name + "(?: " + name + ")*"}, {"NAME", name}, {"DEPTH", "(?:0|[1-9][0-9]{0,7})"}, {"DIGEST", "[0-9a-f]{16}"}, {"ROLE", "(?:run|read|dig|sign)"}, {"WORD", "(?:watch|sleeve|cut)"}} {
		s = strings.ReplaceAll(s, c[0], c[1])
	}
	return regexp.MustCompile(`^(?:` + s + `)$`)
}

// commandForm is what a command looks like.
var commandForm = form("hand NAME ROLE|block NAME NAME DIGEST|(?:find|again) NAME NAME DEPTH NAMES|dig NAME NAME DEPTH|decide NAME NAME WORD|sign NAME NAME|withdraw NAME|report NAME NAMES")

// refusal is an error and when there is it.
type refusal struct {
	when bool
	e    api.Errno
}

// first returns the first error that there is.
func first(l []refusal) api.Errno {
	for _, r := range l {
		if r.when {
			return r.e
		}
	}
	return api.OK
}

// not tells of a hand that it has not a role.
func (m *model) not(hand, role string) refusal { return refusal{m.roles[hand] != role, api.ErrHand} }

// none tells of a finding that there is none.
func (m *model) none(item string) refusal {
	return refusal{!slices.Contains(m.items, item), api.ErrNone}
}

// in tells of a finding that it has none of some states.
func (m *model) in(item string, states ...int) refusal {
	return refusal{!slices.Contains(states, m.findings[item].State), api.ErrState}
}

// sources tells what is wrong with blocks.
func (m *model) sources(blocks []string) []refusal {
	var out []refusal
	for i, x := range blocks {
		out = append(out, refusal{!slices.Contains(m.blocks, x), api.ErrNone}, refusal{slices.Contains(blocks[:i], x), api.ErrTwice}, refusal{m.withdrawn[x], api.ErrHeld})
	}
	return append(out, refusal{len(blocks) > 8, api.ErrFull})
}

// reported tells what is wrong with findings of a report.
func (m *model) reported(items []string) []refusal {
	var out []refusal
	for i, x := range items {
		out = append(out, m.none(x), refusal{slices.Contains(items[:i], x), api.ErrTwice}, refusal{m.findings[x].State != service.Final, api.ErrHeld})
	}
	return append(out, refusal{len(items) > 16, api.ErrFull})
}

// refused returns the error of a command that has a form.
func (m *model) refused(w []string) api.Errno {
	full := func(l []string, most int) refusal { return refusal{len(l) == most, api.ErrFull} }
	twice := func(l []string) refusal { return refusal{slices.Contains(l, w[1]), api.ErrTwice} }
	switch w[0] {
	case "hand":
		return first([]refusal{twice(m.hands), full(m.hands, 8)})
	case "block":
		return first([]refusal{twice(m.blocks), m.not(w[2], "run"), full(m.blocks, 64)})
	case "find":
		return first(append(append([]refusal{twice(m.items), m.not(w[2], "read")}, m.sources(w[4:])...), full(m.items, 64)))
	case "again":
		return first(append([]refusal{m.none(w[1]), m.in(w[1], service.Suspect), m.not(w[2], "read")}, m.sources(w[4:])...))
	case "dig":
		return first([]refusal{m.none(w[1]), m.in(w[1], service.Found), m.not(w[2], "dig")})
	case "decide":
		undug := refusal{w[3] == "cut" && m.findings[w[1]].State != service.Dug, api.ErrHeld}
		return first([]refusal{m.none(w[1]), m.in(w[1], service.Found, service.Dug), m.not(w[2], "sign"), undug})
	case "sign":
		same := refusal{m.findings[w[1]].By == w[2], api.ErrHand}
		return first([]refusal{m.none(w[1]), m.in(w[1], service.Decided), m.not(w[2], "sign"), same})
	case "withdraw":
		return first([]refusal{{!slices.Contains(m.blocks, w[1]), api.ErrNone}, {m.withdrawn[w[1]], api.ErrState}})
	}
	return first(append(append([]refusal{twice(m.reports)}, m.reported(w[2:])...), full(m.reports, 64)))
}

// do performs a command.
func (m *model) do(line string) api.Errno {
	if len(line) > 400 {
		return api.ErrSize
	}
	if !commandForm.MatchString(line) {
		return api.ErrForm
	}
	w := strings.Split(line, " ")
	if e := m.refused(w); e != api.OK {
		return e
	}
	m.change(w)
	m.commands = append(m.commands, line)
	text := fmt.Sprintf("%d %s", len(m.commands), line)
	m.sum = digest(m.sum, text)
	m.ledger += fmt.Sprintf("%s %016x\n", text, m.sum)
	return api.OK
}

// change does what a command does that is not refused.
func (m *model) change(w []string) {
	x := m.findings[w[1]]
	switch w[0] {
	case "hand":
		m.hands, m.roles[w[1]] = append(m.hands, w[1]), w[2]
		return
	case "block":
		m.blocks, m.digests[w[1]] = append(m.blocks, w[1]), w[3]
		return
	case "report":
		m.reports, m.contents[w[1]] = append(m.reports, w[1]), w[2:]
		return
	case "withdraw":
		m.withdrawn[w[1]] = true
		for name, x := range m.findings {
			if slices.Contains(x.Blocks, w[1]) {
				x.State = service.Suspect
				m.findings[name] = x
			}
		}
		return
	case "find", "again":
		if w[0] == "find" {
			m.items = append(m.items, w[1])
		}
		depth, _ := strconv.Atoi(w[3])
		x = service.Item{Name: w[1], State: service.Found, Read: depth, Dug: -1, Blocks: w[4:]}
	case "dig":
		x.State = service.Dug
		x.Dug, _ = strconv.Atoi(w[3])
	case "decide":
		x.State, x.By, x.Word = service.Decided, w[2], w[3]
	case "sign":
		x.State, x.Signed = service.Final, w[2]
	}
	m.findings[w[1]] = x
}

// shot returns the whole state as a text.
func (m *model) shot() string {
	var hands []service.Hand
	for _, x := range m.hands {
		hands = append(hands, service.Hand{Name: x, Role: slices.Index([]string{"run", "read", "dig", "sign"}, m.roles[x])})
	}
	var blocks []service.Block
	for _, x := range m.blocks {
		sum, _ := strconv.ParseUint(m.digests[x], 16, 64)
		blocks = append(blocks, service.Block{Name: x, Digest: sum, Withdrawn: m.withdrawn[x]})
	}
	var items []service.Item
	for _, x := range m.items {
		items = append(items, m.findings[x])
	}
	var reports []service.Report
	for _, x := range m.reports {
		reports = append(reports, service.Report{Name: x, Items: m.contents[x]})
	}
	return fmt.Sprintf("%+v\n%+v\n%+v\n%+v\n%s", hands, blocks, items, reports, m.ledger)
}

// trace returns the blocks of a report.
func (m *model) trace(report string) []string {
	return slices.DeleteFunc(slices.Clone(m.blocks), func(block string) bool {
		return !slices.ContainsFunc(m.contents[report], func(item string) bool { return slices.Contains(m.findings[item].Blocks, block) })
	})
}

// suspects returns the reports with a finding that is Suspect.
func (m *model) suspects() []string {
	return slices.DeleteFunc(slices.Clone(m.reports), func(report string) bool {
		return !slices.ContainsFunc(m.contents[report], func(item string) bool { return m.findings[item].State == service.Suspect })
	})
}

// papers returns the papers of a report.
func (m *model) papers(report string) string {
	read := map[string]bool{}
	for _, command := range m.commands {
		w := strings.Split(command, " ")
		if slices.Contains([]string{"find", "again"}, w[0]) && slices.Contains(m.contents[report], w[1]) {
			for _, x := range w[4:] {
				read[x] = true
			}
		}
	}
	out := "report " + report + " " + strings.Join(m.contents[report], " ") + "\n"
	for i, command := range m.commands {
		w := strings.Split(command, " ")
		about := map[string]bool{"report": w[1] == report, "block": read[w[1]], "withdraw": read[w[1]]}
		for _, word := range []string{"find", "again", "dig", "decide", "sign"} {
			about[word] = slices.Contains(m.contents[report], w[1])
		}
		if about[w[0]] {
			out += fmt.Sprintf("%d %s\n", i+1, command)
		}
	}
	return out + fmt.Sprintf("digest %016x\n", digest(1, out))
}

// reply answers a line, and tells the error in the answer.
func (m *model) reply(line string) (string, api.Errno) {
	w := strings.Split(line, " ")
	e := api.OK
	switch {
	case line == "items":
		return wordsOf(m.items...), api.OK
	case line == "suspects":
		return wordsOf(m.suspects()...), api.OK
	case form("trace NAME").MatchString(line):
		if slices.Contains(m.reports, w[1]) {
			return wordsOf(m.trace(w[1])...), api.OK
		}
		e = api.ErrNone
	case form("show NAME").MatchString(line):
		if slices.Contains(m.items, w[1]) {
			x := m.findings[w[1]]
			return fmt.Sprint(x.State, x.Read, x.Dug), api.OK
		}
		e = api.ErrNone
	default:
		e = m.do(line)
	}
	if e != api.OK {
		return fmt.Sprint("error ", int(e)), e
	}
	return "ok", api.OK
}
