package token_test

import (
	"fmt"
	"strings"
	"testing"

	"foundry/api"
	"foundry/token"
)

func kindName(kind int) string {
	return [...]string{"?", "name", "int", "text", "sign", "word", "line", "in", "out"}[kind]
}

// shown are tokens, with all that they have.
func shown(l []api.Token) string {
	var words []string
	for _, t := range l {
		w := kindName(t.Kind)
		if t.Text != "" || t.Kind == api.TokenText {
			w += fmt.Sprintf(":%q", t.Text)
		}
		if t.Number != 0 {
			w += fmt.Sprint("=", t.Number)
		}
		words = append(words, fmt.Sprint(w, "@", t.At))
	}
	return strings.Join(words, " ")
}

// splits tells that a source has these tokens.
func splits(t *testing.T, s, want string) {
	t.Helper()
	l, f := token.Split(s)
	if shown(l) != want || f != (api.Fault{}) {
		t.Errorf("Split(%.100q):\n%s %v, must be\n%s", s, shown(l), f, want)
	}
}

// faults tells that a source has this fault.
func faults(t *testing.T, s string, e api.Errno, at int) {
	t.Helper()
	l, f := token.Split(s)
	if len(l) != 0 || f != (api.Fault{Err: e, At: at}) {
		t.Errorf("Split(%.100q): %.200s %v, must be %d at %d", s, shown(l), f, e, at)
	}
}

func TestF1Names(t *testing.T) {
	splits(t, "a", `name:"a"@0 line@1`)
	splits(t, "azAZ_09", `name:"azAZ_09"@0 line@7`)
	splits(t, "_", `name:"_"@0 line@1`)
	splits(t, "__1", `name:"__1"@0 line@3`)
	splits(t, "a b", `name:"a"@0 name:"b"@2 line@3`)
	splits(t, "1a", `int:"1"=1@0 name:"a"@1 line@2`)
	splits(t, "a1-b", `name:"a1"@0 sign:"-"@2 name:"b"@3 line@4`)
	splits(t, `a"b"c`, `name:"a"@0 text:"b"@1 name:"c"@4 line@5`)
	long := strings.Repeat("a", api.MaxSource)
	splits(t, long, fmt.Sprintf(`name:%q@0 line@6000`, long))
}

func TestF1Words(t *testing.T) {
	for _, w := range strings.Fields("and or not in if else for def return pass True False None load") {
		splits(t, w, fmt.Sprintf(`word:%q@0 line@%d`, w, len(w)))
		for _, name := range []string{w + "x", w + "1", w + "_", "_" + w, w + w, w[:len(w)-1], strings.ToUpper(w)} {
			splits(t, name, fmt.Sprintf(`name:%q@0 line@%d`, name, len(name)))
		}
		splits(t, w+"=1"+w, fmt.Sprintf(`word:%q@0 sign:"="@%d int:"1"=1@%d word:%q@%d line@%d`, w, len(w), len(w)+1, w, len(w)+2, 2*len(w)+2))
	}
}

func TestF1Ints(t *testing.T) {
	splits(t, "0", `int:"0"@0 line@1`)
	splits(t, "7", `int:"7"=7@0 line@1`)
	splits(t, "10 20", `int:"10"=10@0 int:"20"=20@3 line@5`)
	splits(t, "1234567890", `int:"1234567890"=1234567890@0 line@10`)
	splits(t, "9007199254740991", `int:"9007199254740991"=9007199254740991@0 line@16`)
	splits(t, "-1", `sign:"-"@0 int:"1"=1@1 line@2`)
	splits(t, "0_0", `int:"0"@0 name:"_0"@1 line@3`)
	splits(t, "0x1", `int:"0"@0 name:"x1"@1 line@3`)
}

func TestF1Texts(t *testing.T) {
	splits(t, `""`, `text:""@0 line@2`)
	splits(t, `"a"`, `text:"a"@0 line@3`)
	splits(t, `"a""b"`, `text:"a"@0 text:"b"@3 line@6`)
	splits(t, `"\n\t\\\""`, `text:"\n\t\\\""@0 line@10`)
	splits(t, `"\\"`, `text:"\\"@0 line@4`)
	splits(t, `"\\n"`, `text:"\\n"@0 line@5`)
	splits(t, `"a # b" # c`, `text:"a # b"@0 line@11`)
	splits(t, `"([{" `, `text:"([{"@0 line@6`)
	splits(t, `"and 007 $ '"`, `text:"and 007 $ '"@0 line@13`)
	for c := 32; c < 256; c++ {
		s := string([]byte{byte(c)})
		if s != `"` && s != `\` {
			l, f := token.Split(`"` + s + `"`)
			if len(l) != 2 || l[0] != (api.Token{Kind: api.TokenText, Text: s}) || f.Err != api.OK {
				t.Errorf("the text %q: %v %v", s, l, f)
			}
		}
	}
}

func TestF1Signs(t *testing.T) {
	for _, s := range strings.Fields("= == != < <= + - * // % , :") {
		splits(t, s, fmt.Sprintf(`sign:%q@0 line@%d`, s, len(s)))
		splits(t, "a"+s+"1", fmt.Sprintf(`name:"a"@0 sign:%q@1 int:"1"=1@%d line@%d`, s, len(s)+1, len(s)+2))
	}
	splits(t, "()[]{}", `sign:"("@0 sign:")"@1 sign:"["@2 sign:"]"@3 sign:"{"@4 sign:"}"@5 line@6`)
	splits(t, "===", `sign:"=="@0 sign:"="@2 line@3`)
	splits(t, "= =", `sign:"="@0 sign:"="@2 line@3`)
	splits(t, "<==", `sign:"<="@0 sign:"="@2 line@3`)
	splits(t, "<<=", `sign:"<"@0 sign:"<="@1 line@3`)
	splits(t, "!==", `sign:"!="@0 sign:"="@2 line@3`)
	splits(t, "=!=", `sign:"="@0 sign:"!="@1 line@3`)
	splits(t, "////", `sign:"//"@0 sign:"//"@2 line@4`)
	splits(t, "**--++%%,,::", `sign:"*"@0 sign:"*"@1 sign:"-"@2 sign:"-"@3 sign:"+"@4 sign:"+"@5 sign:"%"@6 sign:"%"@7 sign:","@8 sign:","@9 sign:":"@10 sign:":"@11 line@12`)
}

func TestF1WhatIsLeftOut(t *testing.T) {
	splits(t, "a#b", `name:"a"@0 line@3`)
	splits(t, "a # b # c\nd", `name:"a"@0 line@9 name:"d"@10 line@11`)
	splits(t, "a   b  ", `name:"a"@0 name:"b"@4 line@7`)
	splits(t, "a #\x00\x01\t\r\x80\xff\"(\nb", `name:"a"@0 line@11 name:"b"@12 line@13`)
	splits(t, "#", "")
	splits(t, "##\n#\n", "")
}

func TestF2Lines(t *testing.T) {
	splits(t, "", "")
	splits(t, "\n", "")
	splits(t, "   ", "")
	splits(t, "  \n\n # so\n   # and so", "")
	splits(t, "a\n", `name:"a"@0 line@1`)
	splits(t, "a  \n", `name:"a"@0 line@3`)
	splits(t, "\n\na\n\n\nb\n\n", `name:"a"@2 line@3 name:"b"@6 line@7`)
	splits(t, "a = 1\n", `name:"a"@0 sign:"="@2 int:"1"=1@4 line@5`)
	splits(t, "a\n# so\nb", `name:"a"@0 line@1 name:"b"@7 line@8`)
}

func TestF2Brackets(t *testing.T) {
	splits(t, "(a\n  b\n)\nc", `sign:"("@0 name:"a"@1 name:"b"@5 sign:")"@7 line@8 name:"c"@9 line@10`)
	splits(t, "[\n\n]", `sign:"["@0 sign:"]"@3 line@4`)
	splits(t, "{\n     a\n }\nb", `sign:"{"@0 name:"a"@7 sign:"}"@10 line@11 name:"b"@12 line@13`)
	splits(t, "(]", `sign:"("@0 sign:"]"@1 line@2`)
	splits(t, "[)", `sign:"["@0 sign:")"@1 line@2`)
	splits(t, "([)\n}\n", `sign:"("@0 sign:"["@1 sign:")"@2 sign:"}"@4 line@5`)
	splits(t, "( # )\n)", `sign:"("@0 sign:")"@6 line@7`)
	splits(t, "(\n# )\n\n)\n a", `sign:"("@0 sign:")"@7 line@8 in@10 name:"a"@10 line@11 out@11`)
	// How far in a line is, its first bytes say, not those within its brackets.
	splits(t, "a\n  (\nb)\n  c\nd", `name:"a"@0 line@1 in@4 sign:"("@4 name:"b"@6 sign:")"@7 line@8 name:"c"@11 line@12 out@13 name:"d"@13 line@14`)
	splits(t, "(\n   )a\nb", `sign:"("@0 sign:")"@5 name:"a"@6 line@7 name:"b"@8 line@9`)
}

func TestF2InAndOut(t *testing.T) {
	splits(t, "if a:\n  b\n  c\nd", `word:"if"@0 name:"a"@3 sign:":"@4 line@5 in@8 name:"b"@8 line@9 name:"c"@12 line@13 out@14 name:"d"@14 line@15`)
	splits(t, "a\n b\n  c\n   d\ne", `name:"a"@0 line@1 in@3 name:"b"@3 line@4 in@7 name:"c"@7 line@8 in@12 name:"d"@12 line@13 out@14 out@14 out@14 name:"e"@14 line@15`)
	splits(t, "a\n b\n    c\n b\n    c\n b", `name:"a"@0 line@1 in@3 name:"b"@3 line@4 in@9 name:"c"@9 line@10 out@12 name:"b"@12 line@13 in@18 name:"c"@18 line@19 out@21 name:"b"@21 line@22 out@22`)
	splits(t, "a\n  b\n    c", `name:"a"@0 line@1 in@4 name:"b"@4 line@5 in@10 name:"c"@10 line@11 out@11 out@11`)
	splits(t, "a\n  b\n    c\n\n  \n # so", `name:"a"@0 line@1 in@4 name:"b"@4 line@5 in@10 name:"c"@10 line@11 out@21 out@21`)
	// What is left out does not tell how far in one is.
	splits(t, "a\n  b\n# so\n\n     # so\n  c\n", `name:"a"@0 line@1 in@4 name:"b"@4 line@5 name:"c"@24 line@25 out@26`)
	// One begins not in at all, and may come back to that.
	splits(t, "  a", `in@2 name:"a"@2 line@3 out@3`)
	splits(t, "  a\nb", `in@2 name:"a"@2 line@3 out@4 name:"b"@4 line@5`)
	splits(t, "   \n a\n b", `in@5 name:"a"@5 line@6 name:"b"@8 line@9 out@9`)
}

func TestF3SourceIsTooLong(t *testing.T) {
	faults(t, strings.Repeat("a", api.MaxSource+1), api.ErrMany, 0)
	faults(t, strings.Repeat(" ", api.MaxSource+1), api.ErrMany, 0)
	faults(t, "$"+strings.Repeat("a", api.MaxSource), api.ErrMany, 0)
	splits(t, strings.Repeat("\n", api.MaxSource), "")
	faults(t, strings.Repeat(" ", api.MaxSource-1)+"$", api.ErrForm, api.MaxSource-1)
}

func TestF3NoTokenBegins(t *testing.T) {
	for c := range 256 {
		s := string([]byte{byte(c)})
		if strings.ContainsAny(s, " \n#\"") || c < 128 && strings.Contains("=<+-*%()[]{},:_", s) {
			continue
		}
		if '0' <= c && c <= '9' || 'a' <= c && c <= 'z' || 'A' <= c && c <= 'Z' {
			continue
		}
		faults(t, s, api.ErrForm, 0)
		faults(t, "a\n b = "+s+" 007", api.ErrForm, 7)
		faults(t, "("+s, api.ErrForm, 1)
	}
	faults(t, "a / b", api.ErrForm, 2)
	faults(t, "///", api.ErrForm, 2)
	faults(t, "a ! = b", api.ErrForm, 2)
	faults(t, "a <= ! b", api.ErrForm, 5)
	faults(t, "a\r\nb", api.ErrForm, 1)
	faults(t, "a\n\tb", api.ErrForm, 2)
	faults(t, "a\n\t\nb", api.ErrForm, 2)
	faults(t, "(\n\t)", api.ErrForm, 2)
}

func TestF3Texts(t *testing.T) {
	faults(t, `"`, api.ErrForm, 1)
	faults(t, `"a`, api.ErrForm, 2)
	faults(t, `"a\`, api.ErrForm, 3)
	faults(t, `"a\"`, api.ErrForm, 4)
	faults(t, `("a`, api.ErrForm, 3)
	faults(t, "\"a\nb\"", api.ErrForm, 2)
	faults(t, "(\"a\n\")", api.ErrForm, 3)
	for c := range 32 {
		faults(t, `x "a`+string([]byte{byte(c)})+`"`, api.ErrForm, 4)
	}
	for c := range 256 {
		if !strings.Contains(`nt\"`, string([]byte{byte(c)})) {
			faults(t, `"a\`+string([]byte{byte(c)})+`"`, api.ErrForm, 3)
		}
	}
	faults(t, "\"\\\x01\"", api.ErrForm, 2)
	faults(t, "\"\x01\\x\"", api.ErrForm, 1)
}

func TestF3Brackets(t *testing.T) {
	for _, close := range []string{")", "]", "}"} {
		faults(t, close, api.ErrForm, 0)
		faults(t, "a"+close, api.ErrForm, 1)
		faults(t, "()"+close, api.ErrForm, 2)
		faults(t, "a\n b\n  c"+close+"$", api.ErrForm, 8)
	}
	for _, open := range []string{"(", "[", "{"} {
		faults(t, open, api.ErrForm, 1)
		faults(t, open+"a", api.ErrForm, 2)
		faults(t, open+"()\n\n  # so", api.ErrForm, 11)
		faults(t, "()"+open+"\n", api.ErrForm, 4)
		many := strings.Repeat(open, api.MaxNest)
		faults(t, many+open, api.ErrMany, api.MaxNest)
		faults(t, many+")))"+open+open+open+open, api.ErrMany, api.MaxNest+6)
		faults(t, many+"\n  "+open, api.ErrMany, api.MaxNest+3)
		faults(t, many, api.ErrForm, api.MaxNest)
		if l, f := token.Split(many + strings.Repeat("]", api.MaxNest)); len(l) != 2*api.MaxNest+1 || f.Err != api.OK {
			t.Errorf("%d brackets: %d %v", api.MaxNest, len(l), f)
		}
		if l, f := token.Split(strings.Repeat(open+")", 2*api.MaxNest)); len(l) != 4*api.MaxNest+1 || f.Err != api.OK {
			t.Errorf("brackets behind one another: %d %v", len(l), f)
		}
	}
}

func TestF3Ints(t *testing.T) {
	faults(t, "9007199254740992", api.ErrRange, 0)
	faults(t, "a = 9007199254740992", api.ErrRange, 4)
	faults(t, "9223372036854775808", api.ErrRange, 0)
	faults(t, "18446744073709551617", api.ErrRange, 0)
	faults(t, strings.Repeat("9", api.MaxSource), api.ErrRange, 0)
	faults(t, "1"+strings.Repeat("0", api.MaxSource-1), api.ErrRange, 0)
	faults(t, "00", api.ErrRange, 0)
	faults(t, "01", api.ErrRange, 0)
	faults(t, "007", api.ErrRange, 0)
	faults(t, "[1, 2, 00]", api.ErrRange, 7)
	faults(t, "01a", api.ErrRange, 0)
	faults(t, "01$", api.ErrRange, 0)
}

// deep is a source in which one goes further in so often.
func deep(times int) string {
	var b strings.Builder
	for i := range times + 1 {
		b.WriteString(strings.Repeat(" ", i) + "a\n")
	}
	return b.String()
}

func TestF3HowFarIn(t *testing.T) {
	faults(t, "if a:\n  b\n c\n", api.ErrState, 11)
	faults(t, "  a\n b", api.ErrState, 5)
	faults(t, "a\n  b\n    c\n   d", api.ErrState, 15)
	faults(t, "a\n  b\n    c\n  d\n   e\n f", api.ErrState, 22)
	// To where one has come out of one may not come back.
	faults(t, "a\n  b\n      c\n    d", api.ErrState, 18)
	faults(t, "a\n   b\nc\n    d\n   e", api.ErrState, 18)
	faults(t, "a\n  b\n # so\n c", api.ErrState, 13)

	most := deep(api.MaxNest)
	l, f := token.Split(most)
	if len(l) != 4*api.MaxNest+2 || f.Err != api.OK {
		t.Errorf("%d times further in: %d %v", api.MaxNest, len(l), f)
	}
	further := strings.Repeat(" ", api.MaxNest+1)
	faults(t, most+further+"b", api.ErrMany, len(most)+len(further))
	faults(t, most+further+"  b", api.ErrMany, len(most)+len(further)+2)
	if _, f := token.Split(most + further + "# so\n" + further[1:] + "b"); f.Err != api.OK {
		t.Errorf("what is left out is too far in: %v", f)
	}
	// Brackets and lines are counted apart; having come out, one may go in again.
	brackets := strings.Repeat("(", api.MaxNest) + strings.Repeat(")", api.MaxNest)
	if _, f := token.Split(most + further[1:] + brackets); f.Err != api.OK {
		t.Errorf("brackets far in: %v", f)
	}
	if _, f := token.Split(most + most); f.Err != api.OK {
		t.Errorf("far in twice: %v", f)
	}
}

func TestF3WhatIsMetFirstIsTold(t *testing.T) {
	faults(t, "$ 007", api.ErrForm, 0)
	faults(t, "007 $", api.ErrRange, 0)
	faults(t, "( 00 $", api.ErrRange, 2)
	faults(t, "a\n  b\n c 00 $", api.ErrState, 7)
	faults(t, "(00", api.ErrRange, 1)
	faults(t, "\"\\x\" 00", api.ErrForm, 2)
	faults(t, "00 \"\\x\"", api.ErrRange, 0)
	faults(t, strings.Repeat("(", api.MaxNest+1)+"$", api.ErrMany, api.MaxNest)
	faults(t, strings.Repeat("(", api.MaxNest)+"$(", api.ErrForm, api.MaxNest)
}

func TestF3OfSeveralAtOneByteTheOneNamedFirstIsTold(t *testing.T) {
	wrong := "a\n  b\n "
	faults(t, wrong+"$", api.ErrForm, len(wrong))
	faults(t, wrong+"\t", api.ErrForm, len(wrong))
	faults(t, wrong+")", api.ErrForm, len(wrong))
	faults(t, wrong+"007", api.ErrState, len(wrong))
	faults(t, wrong+"(", api.ErrState, len(wrong))
	far := deep(api.MaxNest) + strings.Repeat(" ", api.MaxNest+1)
	faults(t, far+"$", api.ErrForm, len(far))
	faults(t, far+")", api.ErrForm, len(far))
	faults(t, far+"007", api.ErrRange, len(far))
	faults(t, far+"(", api.ErrMany, len(far))
	// What is wrong in a text stands behind its beginning.
	faults(t, wrong+`"`, api.ErrState, len(wrong))
	faults(t, wrong+`"\x"`, api.ErrState, len(wrong))
	faults(t, far+`"`, api.ErrMany, len(far))
}

func TestP2P3AnswersAreTheCallersAndTheSame(t *testing.T) {
	s := "if a:\n  b = [1, \"x\"]\n"
	first, _ := token.Split(s)
	was := shown(first)
	clear(first)
	splits(t, s, was)
	splits(t, s, was)
}
