package token_test

import (
	"regexp"
	"slices"
	"strconv"
	"strings"
	"testing"

	"foundry/api"
	"foundry/token"
)

// What the document says of tokens, as patterns: what is between them (outside brackets, and within), and each kind.
var (
	between  = regexp.MustCompile(`^(?: |#[^\n]*)*`)
	within   = regexp.MustCompile(`^(?:[ \n]|#[^\n]*)*`)
	nameForm = regexp.MustCompile(`^[A-Za-z_][A-Za-z_0-9]*`)
	intForm  = regexp.MustCompile(`^[0-9]+`)
	goodInt  = regexp.MustCompile(`^(?:0|[1-9][0-9]{0,15})$`)
	signForm = regexp.MustCompile(`^(?:==|!=|<=|//|[=<+\-*%()\[\]{},:])`)
	wordForm = regexp.MustCompile(`^(?:and|or|not|in|if|else|for|def|return|pass|True|False|None|load)$`)
	textForm = regexp.MustCompile(`^"((?s:[^"\\\x00-\x1f]|\\[nt\\"])*)("?)`)
)

// model splits sources as the document says it: of each token it tells all faults, and takes the one that is furthest to the left, of these the one that is named first.
type model struct {
	s      string
	at     int
	open   int
	ins    []int
	tokens []api.Token
	wrong  []api.Fault
}

func (m *model) find(form *regexp.Regexp) string { return form.FindString(m.s[m.at:]) }

func (m *model) fault(e api.Errno, at int) { m.wrong = append(m.wrong, api.Fault{Err: e, At: at}) }

func (m *model) skip() {
	form := between
	if m.open > 0 {
		form = within
	}
	m.at += len(m.find(form))
}

func modelSplit(s string) ([]api.Token, api.Fault) {
	m := model{s: s, ins: []int{0}}
	fresh, begin := true, 0
	for len(m.wrong) == 0 {
		m.skip()
		if m.at < len(s) && s[m.at] != '\n' {
			m.take(fresh, m.at-begin)
			fresh = false
			continue
		}
		if m.open > 0 {
			m.fault(api.ErrForm, len(s))
		}
		if !fresh {
			m.tokens = append(m.tokens, api.Token{Kind: api.TokenLine, At: m.at})
		}
		if m.at == len(s) {
			m.place(0)
			break
		}
		m.at++
		fresh, begin = true, m.at
	}
	if len(m.wrong) > 0 {
		slices.SortStableFunc(m.wrong, func(a, b api.Fault) int { return a.At - b.At })
		return nil, m.wrong[0]
	}
	return m.tokens, api.Fault{}
}

// take a token; faults are noted in the order in which they are named.
func (m *model) take(first bool, in int) {
	t := api.Token{At: m.at}
	var next int
	sign, digits := m.find(signForm), m.find(intForm)
	switch {
	case m.find(nameForm) != "":
		t.Kind, t.Text = api.TokenName, m.find(nameForm)
		if wordForm.MatchString(t.Text) {
			t.Kind = api.TokenWord
		}
		next = m.at + len(t.Text)
	case digits != "":
		t.Kind, t.Text = api.TokenInt, digits
		next = m.at + len(digits)
	case sign != "":
		t.Kind, t.Text = api.TokenSign, sign
		next = m.at + len(sign)
	case m.s[m.at] == '"':
		t.Kind = api.TokenText
		t.Text, next = m.text()
	default:
		m.fault(api.ErrForm, m.at)
	}
	if strings.ContainsAny(sign, ")]}") {
		if m.open == 0 {
			m.fault(api.ErrForm, m.at)
		}
		m.open--
	}
	if first && in < m.ins[len(m.ins)-1] && !slices.Contains(m.ins, in) {
		m.fault(api.ErrState, m.at)
	}
	if digits != "" {
		n, _ := strconv.ParseUint(digits, 10, 64)
		if !goodInt.MatchString(digits) || n > api.MaxNumber {
			m.fault(api.ErrRange, m.at)
		}
		t.Number = int(n)
	}
	if strings.ContainsAny(sign, "([{") {
		m.open++
	}
	if m.open > api.MaxNest || first && in > m.ins[len(m.ins)-1] && len(m.ins) > api.MaxNest {
		m.fault(api.ErrMany, m.at)
	}
	if first {
		m.place(in)
	}
	m.tokens = append(m.tokens, t)
	m.at = next
}

// text that begins here: what it says, and where it ends.
func (m *model) text() (string, int) {
	found := textForm.FindStringSubmatch(m.s[m.at:])
	next := m.at + len(found[0])
	if found[2] == "" {
		if next < len(m.s) && m.s[next] == '\\' {
			next++
		}
		m.fault(api.ErrForm, next)
	}
	inner := strings.TrimSuffix(found[0][1:], found[2])
	return strings.NewReplacer(`\n`, "\n", `\t`, "\t", `\\`, `\`, `\"`, `"`).Replace(inner), next
}

func (m *model) place(in int) {
	if in > m.ins[len(m.ins)-1] {
		m.ins = append(m.ins, in)
		m.tokens = append(m.tokens, api.Token{Kind: api.TokenIn, At: m.at})
	}
	for m.ins[len(m.ins)-1] > in {
		m.ins = m.ins[:len(m.ins)-1]
		m.tokens = append(m.tokens, api.Token{Kind: api.TokenOut, At: m.at})
	}
}

// draw numbers that are the same each time.
type draw uint64

func (d *draw) below(n int) int {
	*d = *d*6364136223846793005 + 1442695040888963407
	return int(uint64(*d) >> 33 % uint64(n))
}

// pieces of which sources are drawn; the first ones are never wrong by themselves.
func pieces() []string {
	return []string{
		"a", "b1", "_", "if", "in", "return", "None", "loads", "0", "12", "9007199254740991", `""`, `"x y"`, `"\n\\\""`, `"#"`,
		"=", "==", "!=", "<", "<=", "+", "-", "*", "//", "%", ",", ":", " ", " ", "  ", "\n", "\n", "\n ", "\n  ", "\n    ", "\n\n", "# so", "#\n", "(", ")", "[", "]", "{", "}",
		"((((((((((", "))))", "00", "9007199254740992", "$", "!", "/", "\t", "\r\n", `"`, `\`, `"\x"`, "\"a\x01\"", "\x00", "\xc3\xa9", "'",
	}
}

func drawnSource(d *draw, most int) string {
	all := pieces()
	if d.below(3) > 0 {
		all = all[:slices.Index(all, "((((((((((")]
	}
	var b strings.Builder
	for range d.below(most + 1) {
		b.WriteString(all[d.below(len(all))])
	}
	return b.String()
}

// drawnBlock is lines that mostly go in and out as they may, each behind the other.
func drawnBlock(d *draw, lines int) string {
	var b strings.Builder
	in := 0
	for range lines {
		switch d.below(8) {
		case 0, 1, 2, 3:
			in += d.below(3)
		case 4:
			in = max(0, in-d.below(3))
		case 5:
			in = 0
		}
		b.WriteString(strings.Repeat(" ", in) + []string{"a", "f(\n 1)", "pass # so", "# so", "", "00", "$", `"`, ")", "(x,)"}[min(d.below(60), d.below(10))] + "\n")
	}
	return b.String()
}

// asModel holds a source against the model, and tells the fault.
func asModel(t *testing.T, s string) api.Errno {
	l, f := token.Split(s)
	want, g := modelSplit(s)
	if !slices.Equal(l, want) || f != g {
		t.Fatalf("Split(%q):\n%s %v, must be\n%s %v", s, shown(l), f, shown(want), g)
	}
	return f.Err
}

func TestF1F2F3DrawnSources(t *testing.T) {
	d := draw(1)
	had := map[api.Errno]int{}
	for range 30000 {
		had[asModel(t, drawnSource(&d, 25))]++
		had[asModel(t, drawnBlock(&d, d.below(12)))]++
	}
	for range 3000 {
		// Going in only, one comes too far in at last.
		var b strings.Builder
		in := 0
		for range 25 + d.below(15) {
			in += 1 + d.below(20)/19 - d.below(30)/29
			b.WriteString(strings.Repeat(" ", max(0, in)) + []string{"a", "00", "$", `"`, ")", "("}[max(0, d.below(200)-194)] + "\n")
		}
		had[asModel(t, b.String())]++
	}
	for _, e := range []api.Errno{api.OK, api.ErrForm, api.ErrState, api.ErrRange, api.ErrMany} {
		if had[e] < 300 {
			t.Errorf("too few of a kind: %v", had)
		}
	}
}

func TestP1DrawnBytes(t *testing.T) {
	d := draw(2)
	for range 30000 {
		b := make([]byte, d.below(12))
		for i := range b {
			b[i] = byte(d.below(256))
			if d.below(2) == 0 {
				b[i] = "a0 \n\"\\()#=!/"[d.below(12)]
			}
		}
		asModel(t, string(b))
	}
}
