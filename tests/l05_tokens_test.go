package tests

import (
	"regexp"
	"slices"
	"strconv"
	"strings"
	"testing"

	"loop.example/g00901/impl"
)

var modelBlank = regexp.MustCompile(`^(?:[ \n]|//[^\n]*)+`)
var modelToken = regexp.MustCompile(`^(?:([a-z](?:-?[a-z0-9])*)|([0-9](?:\.?[0-9])*)|(->|[{}()<>,;:=./@_]))`)

// modelOfTokens splits s as chapter 5 says, with regular expressions.
func modelOfTokens(s string) ([]impl.Token, int64, int64) {
	if len(s) > 30000 {
		return nil, 0, impl.ErrMany
	}
	var list []impl.Token
	line := int64(1)
	for {
		gap := modelBlank.FindString(s)
		line += int64(strings.Count(gap, "\n"))
		s = s[len(gap):]
		if s == "" {
			return append(list, impl.Token{Kind: impl.TkEnd, Line: line}), 0, impl.OK
		}
		found := modelToken.FindStringSubmatch(s)
		if found == nil {
			return nil, line, impl.ErrParse
		}
		if len(list) == 4000 {
			return nil, line, impl.ErrMany
		}
		kind := slices.IndexFunc(found[1:], func(group string) bool { return group != "" }) + 1
		list = append(list, impl.Token{Kind: int64(kind), Text: found[0], Line: line})
		s = s[len(found[0]):]
	}
}

// checkTokens compares Tokens with the model, and the text of the tokens with what it is made of.
func checkTokens(t *testing.T, s string) {
	t.Helper()
	list, line, code := impl.Tokens(s)
	want, wantLine, wantCode := modelOfTokens(s)
	if !alike(list, want) || line != wantLine || code != wantCode {
		t.Errorf("Tokens(%q) returns %v, %d, %d, want %v, %d, %d", s, list, line, code, want, wantLine, wantCode)
		return
	}
	if code != impl.OK {
		return
	}
	var texts []string
	for _, token := range want[:len(want)-1] {
		texts = append(texts, token.Text)
	}
	text := impl.TokensText(list)
	if text != strings.Join(texts, " ") {
		t.Errorf("TokensText of the tokens of %q is %q", s, text)
	}
	again, _, code := impl.Tokens(text)
	if len(text) <= 30000 && (code != impl.OK || !impl.SameTokens(list, again) || impl.TokensText(again) != text) {
		t.Errorf("the tokens of %q are not recovered from %q", s, text)
	}
}

func TestP6TokenConstants(t *testing.T) {
	is(t, "constants", all(int64(impl.MaxTokens), int64(impl.MaxSource), int64(impl.TkWord), int64(impl.TkNumber), int64(impl.TkSign), int64(impl.TkEnd)), 4000, 30000, 1, 2, 3, 4)
}

func TestP6TokenExamples(t *testing.T) {
	list, line, code := impl.Tokens("use a;\n// x\n")
	want := []impl.Token{{Kind: impl.TkWord, Text: "use", Line: 1}, {Kind: impl.TkWord, Text: "a", Line: 1}, {Kind: impl.TkSign, Text: ";", Line: 1}, {Kind: impl.TkEnd, Line: 3}}
	is(t, "use a;", all(alike(list, want), line, code), true, 0, impl.OK)
	list, line, code = impl.Tokens("a\n%")
	is(t, "a\\n%", all(len(list) == 0, line, code), true, 2, impl.ErrParse)
	list, _, _ = impl.Tokens("a:u8")
	is(t, "a:u8", all(impl.TokensText(list)), "a : u8")
}

// TestP6TokenTexts gives the tokens of each source as kinds and texts, by hand.
func TestP6TokenTexts(t *testing.T) {
	for source, want := range map[string]string{
		"": "", " \n \n": "", "a": "1a", "a-b": "1a-b", "a-1": "1a-1", "a-1-b2-3": "1a-1-b2-3", "a1b": "1a1b", "a->b": "1a 3-> 1b", "a-b->c": "1a-b 3-> 1c", "ab12 c": "1ab12 1c", "a b": "1a 1b", "abcdefghijklmnopqrstuvwxyz0123456789": "1abcdefghijklmnopqrstuvwxyz0123456789",
		"0": "20", "007": "2007", "1.2": "21.2", "1.2.3.4.5": "21.2.3.4.5", "1.": "21 3.", "1..2": "21 3. 3. 22", ".1": "3. 21", "1.a": "21 3. 1a", "1a": "21 1a", "1.2a.3": "21.2 1a 3. 23", "a.1": "1a 3. 21", "1.2.0.{": "21.2.0 3. 3{", "1 .2": "21 3. 22", "1. 2": "21 3. 22", "12 34": "212 234", "1->2": "21 3-> 22", "00.00": "200.00", "1a-2": "21 1a-2",
		"->": "3->", "->->": "3-> 3->", "->>": "3-> 3>", "{}()<>,;:=./@_": "3{ 3} 3( 3) 3< 3> 3, 3; 3: 3= 3. 3/ 3@ 3_", "< - >": "", "_a": "3_ 1a", "a_b": "1a 3_ 1b", "==": "3= 3=", "::": "3: 3:",
		"/": "3/", "a/b": "1a 3/ 1b", "/ /": "3/ 3/", "//": "", "///": "", "////": "", "a//b": "1a", "a// b\nc": "1a 1c", "a / b // / c\n/": "1a 3/ 1b 3/", "// a\n// b\nc": "1c", "a//": "1a", "a///b\n/c": "1a 3/ 1c", "1//.2\n.3": "21 3. 23", "a//\n-b": "", "a//->\n->b": "1a 3-> 1b",
		"-": "", "a-": "", "a--b": "", "-a": "", "1-2": "", "a- b": "", "a-\nb": "", "a-//\n": "", "a-_": "", "- >": "", "a-->b": "", "a-A": "", "a-.": "",
		"// \t\r\x00\x7f\x80\xff\u00e9%#-\n": "", "a// \r": "1a", "\t": "", "\r": "", "a\r\nb": "", "a\tb": "", "A": "", "aB": "", "\u00e9": "", "a\u00e9": "", "\xff": "", "\x00": "", "\x7f": "", "\u00a0": "", "\ufeffa": "", "%": "", "#": "", "\"": "", "'": "", "\\": "", "[": "", "]": "", "*": "", "+": "", "!": "", "?": "", "|": "", "&": "", "$": "", "~": "", "^": "", "`": "",
	} {
		checkTokens(t, source)
		list, _, code := impl.Tokens(source)
		var got []string
		for _, token := range list {
			if token.Kind != impl.TkEnd {
				got = append(got, strconv.FormatInt(token.Kind, 10)+token.Text)
			}
		}
		blank := strings.Trim(source, " \n") == "" || strings.HasPrefix(source, "//")
		wantCode := int64(impl.OK)
		if want == "" && !blank {
			wantCode = impl.ErrParse
		}
		is(t, strconv.Quote(source), all(strings.Join(got, " "), code), want, wantCode)
	}
}

func TestP6TokenLines(t *testing.T) {
	for source, want := range map[string]string{
		"": "1", "\n": "2", " ": "1", "a": "1 1", "a\n": "1 2", "\na": "2 2", "a\nb": "1 2 2", "a b\n\n c ;\n": "1 1 3 3 4", "// x": "1", "// x\n": "2", "// x\na": "2 2", "a // x\nb // y": "1 2 2", "a\n// x\n// y\nb\n": "1 4 5", "//\n//\n": "3", "\n\n->\n1.2\n.\n3": "3 4 5 6 6", "a // b\n": "1 2", "a // b": "1 1",
	} {
		list, line, code := impl.Tokens(source)
		var lines []string
		for _, token := range list {
			lines = append(lines, strconv.FormatInt(token.Line, 10))
		}
		is(t, strconv.Quote(source), all(strings.Join(lines, " "), line, code), want, 0, impl.OK)
	}
	for source, want := range map[string]int64{
		"%": 1, "\n%": 2, "a\n\n%": 3, "// %\n%": 2, "// a\r\n\r\n": 2, "a\n-\nb": 2, "a -\n>": 1, "a-\nb": 1, "\n\n\xff\n\n": 3, "a\n\u00e9 % \n\t": 2, "a\n//\n\t": 3, "A\n%": 1,
	} {
		list, line, code := impl.Tokens(source)
		is(t, strconv.Quote(source), all(len(list) == 0, line, code), true, want, impl.ErrParse)
	}
}

// TestP6TokenModel compares all short sources over some bytes with the model.
func TestP6TokenModel(t *testing.T) {
	sources := []string{""}
	for range 6 {
		for _, s := range sources {
			checkTokens(t, s)
		}
		var longer []string
		for _, s := range sources {
			for _, b := range []string{"a", "1", "-", ".", ">", "/", "\n", " ", "%"} {
				longer = append(longer, s+b)
			}
		}
		sources = longer
	}
	for b := range 256 {
		s := string([]byte{byte(b)})
		for _, source := range []string{s, "a" + s, "a" + s + "b", "1" + s, "1" + s + "2", "-" + s, "a-" + s, "a-" + s + "b", "1." + s, "/" + s, "//" + s, "//" + s + "\na", "//" + s + s, " " + s + "\n", "\n" + s + "a\nb", "->" + s} {
			checkTokens(t, source)
		}
	}
}

// TestP6TokenLimits checks the two limits, and which of two errors is returned.
func TestP6TokenLimits(t *testing.T) {
	for _, unit := range []string{" ", "\n", "a", "1", "/", "%", "\xff"} {
		for _, size := range []int{29999, 30000, 30001, 40000} {
			checkTokens(t, strings.Repeat(unit, size))
		}
	}
	for _, fill := range []string{" ", "\n", "// ", "->\n", "a\n", "%"} {
		source := strings.Repeat(fill, 30001/len(fill)+1)
		_, line, code := impl.Tokens(source[:30001])
		is(t, "a long source of "+fill, all(line, code), 0, impl.ErrMany)
	}
	list, _, code := impl.Tokens(strings.Repeat("a", 30000))
	is(t, "a long word", all(code, int64(len(list))), impl.OK, 2)
	for _, c := range []struct {
		source     string
		many       int
		line, code int64
	}{
		{strings.Repeat("a\n", 4000), 4001, 0, impl.OK},
		{strings.Repeat("a\n", 4001), 0, 4001, impl.ErrMany},
		{strings.Repeat(";", 4000), 4001, 0, impl.OK},
		{strings.Repeat(";", 4001), 0, 1, impl.ErrMany},
		{strings.Repeat("1\n", 4000) + "// a b c\n", 4001, 0, impl.OK},
		{strings.Repeat("1\n", 4000) + "// a b c\n\n->", 0, 4003, impl.ErrMany},
		{strings.Repeat("a\n", 4000) + "%", 0, 4001, impl.ErrParse},
		{strings.Repeat("a\n", 4000) + "-", 0, 4001, impl.ErrParse},
		{strings.Repeat("a\n", 4000) + "\n->%", 0, 4002, impl.ErrMany},
		{strings.Repeat("a\n", 4000) + "a-", 0, 4001, impl.ErrMany},
		{strings.Repeat("a\n", 4000) + "a\n%", 0, 4001, impl.ErrMany},
		{strings.Repeat("a\n", 3999) + "%\n" + strings.Repeat("a\n", 100), 0, 4000, impl.ErrParse},
		{"a\n%" + strings.Repeat("a\n", 4001), 0, 2, impl.ErrParse},
		{strings.Repeat("a\n", 9000), 0, 4001, impl.ErrMany},
	} {
		checkTokens(t, c.source)
		list, line, code := impl.Tokens(c.source)
		is(t, "many tokens", all(int64(len(list)), line, code), c.many, c.line, c.code)
	}
	// The spaces of the text can make it longer than a source may be.
	checkTokens(t, strings.Repeat("->", 4000))
	checkTokens(t, strings.Repeat("a", 26001)+strings.Repeat(";", 3999))
}

func TestP6TokensText(t *testing.T) {
	is(t, "no tokens", all(impl.TokensText(nil), impl.TokensText([]impl.Token{}), impl.TokensText([]impl.Token{{Kind: impl.TkEnd}})), "", "", "")
	end := impl.Token{Kind: impl.TkEnd, Text: "end", Line: 5}
	list := []impl.Token{end, {Kind: 0, Text: "A B"}, end, {Kind: -7, Text: ""}, {Kind: 99, Text: "\xff\n"}, end, {Kind: impl.TkWord, Text: "%", Line: -1}, end}
	is(t, "invalid tokens", all(impl.TokensText(list)), "A B  \xff\n %")
	is(t, "empty texts", all(impl.TokensText([]impl.Token{{Kind: 1}}), impl.TokensText([]impl.Token{{}, {}, {}})), "", "  ")
	is(t, "kinds beside TkEnd", all(impl.TokensText([]impl.Token{{Kind: 3, Text: "a"}, {Kind: 5, Text: "b"}, {Kind: 1<<32 + 4, Text: "c"}, {Kind: -4, Text: "d"}})), "a b c d")
}

func TestP6SameTokens(t *testing.T) {
	base := []impl.Token{{Kind: 1, Text: "a", Line: 1}, {Kind: -5, Text: "A %", Line: -3}, {Kind: 4, Text: "", Line: 9}, {Kind: 4, Text: "x"}}
	is(t, "no tokens", all(impl.SameTokens(nil, nil), impl.SameTokens(nil, []impl.Token{}), impl.SameTokens(nil, base), impl.SameTokens(base, nil), impl.SameTokens(nil, []impl.Token{{}})), true, true, false, false, false)
	is(t, "equal tokens", all(impl.SameTokens(base, roomy(base)), impl.SameTokens(base, base)), true, true)
	for i := range base {
		other := slices.Clone(base)
		other[i].Line += 100
		is(t, "another line", all(impl.SameTokens(base, other)), true)
		for _, do := range []func(u *impl.Token){func(u *impl.Token) { u.Kind++ }, func(u *impl.Token) { u.Kind += 1 << 32 }, func(u *impl.Token) { u.Text += " " }, func(u *impl.Token) { u.Text = "b" }} {
			other := slices.Clone(base)
			do(&other[i])
			is(t, "change of "+strconv.Itoa(i), all(impl.SameTokens(base, other), impl.SameTokens(other, base)), false, false)
		}
		is(t, "a shorter list", all(impl.SameTokens(base, base[:i]), impl.SameTokens(base[:i], base), impl.SameTokens(base[:i], base[:i])), false, false, true)
	}
	swapped := []impl.Token{base[1], base[0], base[2], base[3]}
	is(t, "another order", all(impl.SameTokens(base, swapped)), false)
	first, _, _ := impl.Tokens("a:u8 // x")
	second, _, _ := impl.Tokens("\na\n:\nu8\n")
	is(t, "other gaps", all(impl.SameTokens(first, second)), true)
}

func TestP1Tokens(t *testing.T) {
	for _, s := range []string{"", "a", "use a;\n// x\n", "a\n%", "a-b1 // c - d\n->1.2.0.x{_@\n\n", "a-", "\xff", strings.Repeat("a ", 4000), strings.Repeat("a ", 4001), strings.Repeat("a", 30001), strings.Repeat("//", 1000000), strings.Repeat("a-", 10000)} {
		pure(t, "Tokens", s, func(s string) []any {
			list, line, code := impl.Tokens(s)
			return all(list, line, code)
		})
	}
	list, _, _ := impl.Tokens("a-b1 // c - d\n->1.2.0.x{_@\n\n")
	for _, list := range [][]impl.Token{nil, {}, list, {{Kind: -1}, {Kind: impl.TkEnd, Text: "x"}, {Kind: 3, Text: "\xff"}}} {
		pure(t, "token lists", list, func(list []impl.Token) []any {
			return all(impl.TokensText(list), impl.SameTokens(list, list), impl.SameTokens(list, nil))
		})
	}
}
