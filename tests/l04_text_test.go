package tests

import (
	"fmt"
	"math"
	"slices"
	"strings"
	"testing"
	"unsafe"

	"loop.example/g00653/impl"
)

const variableLetters = "ABCDEFGHIJKL"

func equation(left []int64, right []int64) impl.Equation {
	return impl.Equation{Left: left, Right: right}
}

// treeText tells a tree as the document tells a term's text.
func treeText(s impl.Signature, whole tree) string {
	if isKnownVariable(whole.node) {
		return variableLetters[-1-whole.node : -whole.node]
	}
	text := s.Symbols[whole.node].Name
	for number, argument := range whole.arguments {
		text += []string{"(", ","}[min(number, 1)] + treeText(s, argument)
	}
	if len(whole.arguments) > 0 {
		text += ")"
	}
	return text
}

func wantTermText(s impl.Signature, term []int64) impl.TextResult {
	if code := wantTermFault(s, term); code != impl.OK {
		return impl.TextResult{Code: code}
	}
	return impl.TextResult{Text: treeText(s, wholeTree(s, term))}
}

// spell reads the term that text begins with letter by letter, and tells its nodes and what is behind it, or false where there is none.
func spell(s impl.Signature, text string) ([]int64, string, bool) {
	if text != "" && strings.IndexByte(variableLetters, text[0]) >= 0 {
		return []int64{-1 - int64(strings.IndexByte(variableLetters, text[0]))}, text[1:], true
	}
	rest := strings.TrimLeft(text, "abcdefghijklmnopqrstuvwxyz")
	name := text[:len(text)-len(rest)]
	number := slices.IndexFunc(s.Symbols, func(symbol impl.Symbol) bool { return symbol.Name == name })
	if number < 0 {
		return nil, "", false
	}
	nodes := []int64{int64(number)}
	for _, mark := range []string{"", "(", "(,"}[s.Symbols[number].Arity] {
		argument, behind, whole := []int64(nil), "", strings.HasPrefix(rest, string(mark))
		if whole {
			argument, behind, whole = spell(s, rest[1:])
		}
		if !whole {
			return nil, "", false
		}
		nodes, rest = append(nodes, argument...), behind
	}
	if len(nodes) == 1 {
		return nodes, rest, true
	}
	behind, closed := strings.CutPrefix(rest, ")")
	return nodes, behind, closed
}

func wantReadTerm(s impl.Signature, text string) impl.TermResult {
	if code := wantSignatureFault(s); code != impl.OK {
		return impl.TermResult{Code: code}
	}
	nodes, rest, whole := spell(s, text)
	if !whole || rest != "" || len(nodes) > 24 {
		return impl.TermResult{Code: impl.ErrText}
	}
	return impl.TermResult{Term: nodes}
}

func wantEquationFault(s impl.Signature, e impl.Equation) int64 {
	for _, side := range [][]int64{e.Left, e.Right} {
		if code := wantTermFault(s, side); code != impl.OK {
			return code
		}
	}
	if slices.Min(e.Left) < -6 || slices.Min(e.Right) < -6 {
		return impl.ErrRange
	}
	return impl.OK
}

func wantEquationText(s impl.Signature, e impl.Equation) impl.TextResult {
	if code := wantEquationFault(s, e); code != impl.OK {
		return impl.TextResult{Code: code}
	}
	return impl.TextResult{Text: wantTermText(s, e.Left).Text + "=" + wantTermText(s, e.Right).Text}
}

func wantReadEquation(s impl.Signature, text string) impl.EquationResult {
	if code := wantSignatureFault(s); code != impl.OK {
		return impl.EquationResult{Code: code}
	}
	sides := strings.Split(text, "=")
	if len(sides) != 2 || strings.ContainsAny(text, "GHIJKL") {
		return impl.EquationResult{Code: impl.ErrText}
	}
	left, right := wantReadTerm(s, sides[0]), wantReadTerm(s, sides[1])
	if left.Code != impl.OK || right.Code != impl.OK {
		return impl.EquationResult{Code: impl.ErrText}
	}
	return impl.EquationResult{Equation: equation(left.Term, right.Term)}
}

// wantPlain numbers the variables in one walk through both sides.
func wantPlain(s impl.Signature, e impl.Equation) impl.EquationResult {
	for _, side := range [][]int64{e.Left, e.Right} {
		if code := wantTermFault(s, side); code != impl.OK {
			return impl.EquationResult{Code: code}
		}
	}
	numbers, plain := map[int64]int64{}, impl.Equation{}
	number := func(node int64) int64 {
		if node >= 0 {
			return node
		}
		if _, known := numbers[node]; !known {
			numbers[node] = int64(-1 - len(numbers))
		}
		return numbers[node]
	}
	for _, node := range e.Left {
		plain.Left = append(plain.Left, number(node))
	}
	for _, node := range e.Right {
		plain.Right = append(plain.Right, number(node))
	}
	if len(numbers) > 6 {
		return impl.EquationResult{Code: impl.ErrMany}
	}
	return impl.EquationResult{Equation: plain}
}

// checkTexts asks both readers of one text.
func checkTexts(t *testing.T, s impl.Signature, text string) {
	t.Helper()
	mustBe(t, fmt.Sprintf("ReadTerm of %.80q in %.60v", text, s), impl.ReadTerm(s, text), wantReadTerm(s, text))
	mustBe(t, fmt.Sprintf("ReadEquation of %.80q in %.60v", text, s), impl.ReadEquation(s, text), wantReadEquation(s, text))
}

// checkEquation asks all that is asked of one equation.
func checkEquation(t *testing.T, s impl.Signature, e impl.Equation) {
	t.Helper()
	who := fmt.Sprintf("of %s and %s in %.60v", brief(e.Left), brief(e.Right), s)
	mustBe(t, "EquationFault "+who, impl.EquationFault(s, e), wantEquationFault(s, e))
	mustBe(t, "EquationText "+who, impl.EquationText(s, e), wantEquationText(s, e))
	mustBe(t, "PlainEquation "+who, impl.PlainEquation(s, e), wantPlain(s, e))
}

// varied makes m(m(..m(A,B)..,G),H) of these variables' nodes.
func varied(nodes ...int64) []int64 {
	return slices.Concat(slices.Repeat([]int64{2}, len(nodes)-1), nodes)
}

func fullComb() []int64 {
	return append([]int64{1}, leftComb(11)...)
}

func TestBoundsOfEquationsAreThoseOfTheDocument(t *testing.T) {
	mustBe(t, "MaxRuleVars", impl.MaxRuleVars, 6)
}

func TestTermTextKnownValues(t *testing.T) {
	s := exampleSignature()
	for _, c := range []struct {
		term []int64
		text string
	}{
		{[]int64{2, 1, -1, 3}, "m(i(A),a)"},
		{[]int64{-1}, "A"},
		{[]int64{-7}, "G"},
		{[]int64{-12}, "L"},
		{[]int64{0}, "e"},
		{[]int64{3}, "a"},
		{[]int64{1, 0}, "i(e)"},
		{[]int64{2, 0, 3}, "m(e,a)"},
		{[]int64{2, -12, -1}, "m(L,A)"},
		{[]int64{1, 1, 1, -2}, "i(i(i(B)))"},
		{[]int64{2, 2, 0, 3, -1}, "m(m(e,a),A)"},
		{[]int64{2, 0, 2, 3, -1}, "m(e,m(a,A))"},
		{chain(24), strings.Repeat("i(", 23) + "a" + strings.Repeat(")", 23)},
		{fullComb(), "i(" + strings.Repeat("m(", 11) + "A" + strings.Repeat(",a)", 11) + ")"},
	} {
		mustBe(t, fmt.Sprint("TermText of ", c.term), impl.TermText(s, c.term), impl.TextResult{Text: c.text})
		mustBe(t, "ReadTerm of "+c.text, impl.ReadTerm(s, c.text), impl.TermResult{Term: c.term})
	}
}

func TestTermTextTellsTheTermsFault(t *testing.T) {
	for _, s := range fewSignatures() {
		for _, term := range slices.Concat(someTerms(), longLists()) {
			mustBe(t, fmt.Sprintf("TermText of %s in %.60v", brief(term), s), impl.TermText(s, term), wantTermText(s, term))
		}
	}
	s := exampleSignature()
	mustBe(t, "no node", impl.TermText(s, nil), impl.TextResult{Code: impl.ErrMany})
	mustBe(t, "one node too many", impl.TermText(s, chain(25)), impl.TextResult{Code: impl.ErrMany})
	mustBe(t, "one more than the last variable", impl.TermText(s, []int64{-13}), impl.TextResult{Code: impl.ErrRange})
	mustBe(t, "one more than the last symbol", impl.TermText(s, []int64{4}), impl.TextResult{Code: impl.ErrRange})
	mustBe(t, "an argument that is not there", impl.TermText(s, []int64{2, 0}), impl.TextResult{Code: impl.ErrForm})
	mustBe(t, "a signature's fault first", impl.TermText(constants(7), []int64{-13}), impl.TextResult{Code: impl.ErrMany})
	mustBe(t, "a signature without a constant", impl.TermText(signature(impl.Symbol{Name: "i", Arity: 1}), []int64{-1}), impl.TextResult{Code: impl.ErrNone})
}

// Texts that are those of no term over the example's symbols.
var noTerms = []string{
	"", " ", "m(i(A), a)", " a", "a ", "m (a,a)", "m( a,a)", "m(a ,a)", "m(a,a )", "i(\ta)", "a\n", "\na", "\x00", "a\x00",
	"a()", "A()", "a(a)", "A(a)", "a(A,B)", "i()", "m()", "i", "m", "m,", "i,a", "ia", "i a", "ma,a", "m(i,a)", "m(a,i)",
	"m(a)", "m(a,)", "m(,a)", "m(,)", "m(a,a,a)", "m(a,a,)", "m(,a,a)", "m(a,,a)", "i(a,a)", "i(,a)", "i(a,)", "i((a))", "(a)", "((a))", "()", "(", ")", ",",
	"aa", "ae", "a,a", "a)", "a(", "a,", ",a", "(a", "i(a", "i(a))", "i(a)a", "i(a)(", "i(a)(a)", "m(a,a", "m(a,a))", "m(a,a),a", "m(a,a)=", "a=a", "a;a",
	"b", "x", "z", "x(a)", "ee", "im", "mm(a,a)", "i(x)", "m(a,x)", "abcd", "eia",
	"M", "N", "Z", "AA", "AB", "Aa", "aA", "i(M)", "m(A,Z)", "@", "[", "`", "{", "?", "i(@)", "I(a)", "M(a,a)", "1", "-1", "a1",
	"\xff", "a\xff", "\xffa", "i(\xff)", "i\xff(a)", "i(a)\xff", "i(a\xff)", "\xc3", "a\xc3", "\xe1", "\xc1\x81", "\xe0\x81\xa1", "\xed\xa0\x80", "\xef\xbf\xbd", "i(\ufffd)",
	"é", "α", "Α", "ａ", "Ａ", "ａ（ａ）", "i（a）", "m(a，a)", "а", "i(\u0301a)", "\ufeffa", "a\u200b", "\U00010041",
}

func TestTextsOfNoTerm(t *testing.T) {
	s := exampleSignature()
	for _, text := range noTerms {
		mustBe(t, fmt.Sprintf("ReadTerm of %q", text), impl.ReadTerm(s, text), impl.TermResult{Code: impl.ErrText})
		checkTexts(t, s, text)
	}
}

func TestReadTermAtTheLimitOfNodes(t *testing.T) {
	s := exampleSignature()
	for size := 1; size <= 60; size++ {
		text := strings.Repeat("i(", size-1) + "a" + strings.Repeat(")", size-1)
		want := impl.TermResult{Term: chain(size)}
		if size > 24 {
			want = impl.TermResult{Code: impl.ErrText}
		}
		mustBe(t, fmt.Sprint("a chain of ", size), impl.ReadTerm(s, text), want)
		checkTexts(t, s, text+"="+text)
	}
	for count := 1; count <= 20; count++ {
		left := strings.Repeat("m(", count) + "A" + strings.Repeat(",a)", count)
		right := strings.Repeat("m(e,", count) + "A" + strings.Repeat(")", count)
		for _, text := range []string{left, right, "i(" + left + ")", "i(i(" + right + "))", left + "=" + right} {
			checkTexts(t, s, text)
		}
	}
	full := signature(impl.Symbol{Name: "zzz", Arity: 2}, impl.Symbol{Name: "zzy", Arity: 1}, impl.Symbol{Name: "zyz"})
	longest := "zzy(" + strings.Repeat("zzz(", 11) + "zyz" + strings.Repeat(",zyz)", 11) + ")"
	mustBe(t, "the longest text", len(impl.ReadTerm(full, longest).Term), 24)
	checkTexts(t, full, longest)
	checkTexts(t, full, longest+"="+longest)
	checkTexts(t, full, "zzy("+longest+")")
}

func TestVeryLongTextsAreAnswered(t *testing.T) {
	s := exampleSignature()
	for _, piece := range []string{"a", "A", "i(", "m(", "m(a,", "(", ")", ",", "a,", "A)", "=", "a=", " ", "\xff", "é", "i(a)", "x("} {
		text := strings.Repeat(piece, 100000)
		checkTexts(t, s, text)
		checkTexts(t, s, "a="+text)
		checkTexts(t, s, text+"=a")
		checkTexts(t, s, "i("+text+")")
	}
}

func TestAllShortTexts(t *testing.T) {
	letters := []byte("aimAM(,)")
	for length := range 7 {
		for _, text := range listsOver(letters, length) {
			mustBe(t, fmt.Sprintf("ReadTerm of %q", text), impl.ReadTerm(exampleSignature(), string(text)), wantReadTerm(exampleSignature(), string(text)))
		}
	}
	for length := range 6 {
		for _, text := range listsOver([]byte("aiAG=(,) "), length) {
			checkTexts(t, exampleSignature(), string(text))
		}
	}
}

func TestEveryRuneAsAText(t *testing.T) {
	s := exampleSignature()
	for letter := rune(0); letter < 0x11000; letter++ {
		for _, text := range []string{string(letter), "i(" + string(letter) + ")"} {
			checkTexts(t, s, text)
		}
	}
	for letter := range 256 {
		for _, text := range []string{string([]byte{byte(letter)}), "m(a," + string([]byte{byte(letter)}) + ")", "a=" + string([]byte{byte(letter)})} {
			checkTexts(t, s, text)
		}
	}
}

// turnedTexts makes of a text all that come of it by one byte that goes, comes in or becomes another one.
func turnedTexts(text string) []string {
	list := []string{}
	for place := range len(text) + 1 {
		for _, letter := range []string{"a", "i", "m", "e", "A", "F", "G", "L", "M", "(", ")", ",", "=", " ", "x", "\x00", "\xff", "\xc3"} {
			list = append(list, text[:place]+letter+text[place:])
			if place < len(text) {
				list = append(list, text[:place]+letter+text[place+1:])
			}
		}
		if place < len(text) {
			list = append(list, text[:place]+text[place+1:], text[:place], text[place:])
		}
	}
	return list
}

func TestTextsThatAreTurnedInOneByte(t *testing.T) {
	s := exampleSignature()
	for _, text := range []string{
		"A", "a", "i(a)", "m(e,a)", "m(i(A),a)", "m(m(e,i(a)),i(i(L)))", "m(e,A)=A", "i(i(A))=A", "m(m(A,B),C)=m(A,m(B,C))", "F=m(F,a)",
		wantTermText(s, chain(24)).Text, wantTermText(s, fullComb()).Text, wantTermText(s, leftComb(11)).Text + "=" + wantTermText(s, chain(23)).Text,
	} {
		for _, turned := range turnedTexts(text) {
			checkTexts(t, s, turned)
		}
	}
}

func TestNamesThatBeginWithOthers(t *testing.T) {
	s := signature(impl.Symbol{Name: "z"}, impl.Symbol{Name: "zz", Arity: 1}, impl.Symbol{Name: "zzz", Arity: 2}, impl.Symbol{Name: "zy"})
	mustBe(t, "zzz(zz(z),zy)", impl.ReadTerm(s, "zzz(zz(z),zy)"), impl.TermResult{Term: []int64{2, 1, 0, 3}})
	mustBe(t, "the text of it", impl.TermText(s, []int64{2, 1, 0, 3}), impl.TextResult{Text: "zzz(zz(z),zy)"})
	for length := range 7 {
		for _, text := range listsOver([]byte("zy(,)"), length) {
			checkTexts(t, s, string(text))
		}
	}
}

func TestReadersTellTheSignaturesFaultFirst(t *testing.T) {
	for _, s := range allSignatures() {
		for _, text := range []string{"", "a", "A", "q", "a(a)", "a(q)", "abc(a,a)", "zzz(zz(z),z)", "x", "a=a", "A=q", "b=", "=", "\xff", "a=a=a"} {
			checkTexts(t, s, text)
		}
	}
	taken := signature(impl.Symbol{Name: "a"}, impl.Symbol{Name: "a"})
	for _, text := range []string{"", "a", "A", "a=a", "x=", "\xff"} {
		mustBe(t, "ReadTerm of "+text, impl.ReadTerm(taken, text), impl.TermResult{Code: impl.ErrTaken})
		mustBe(t, "ReadEquation of "+text, impl.ReadEquation(taken, text), impl.EquationResult{Code: impl.ErrTaken})
	}
	mustBe(t, "a variable where there is no constant", impl.ReadTerm(signature(impl.Symbol{Name: "i", Arity: 1}), "A"), impl.TermResult{Code: impl.ErrNone})
}

func TestEquationFaultKnownValues(t *testing.T) {
	s := exampleSignature()
	taken := signature(impl.Symbol{Name: "a"}, impl.Symbol{Name: "a"})
	for _, c := range []struct {
		what  string
		s     impl.Signature
		left  []int64
		right []int64
		code  int64
	}{
		{"m(e,A)=A", s, []int64{2, 0, -1}, []int64{-1}, impl.OK},
		{"A=B", s, []int64{-1}, []int64{-2}, impl.OK},
		{"variable MaxRuleVars - 1 on both sides", s, []int64{-6}, []int64{1, -6}, impl.OK},
		{"variable MaxRuleVars on the left", s, []int64{-7}, []int64{0}, impl.ErrRange},
		{"variable MaxRuleVars on the right", s, []int64{0}, []int64{-7}, impl.ErrRange},
		{"variable MaxRuleVars on both sides", s, []int64{-7}, []int64{-7}, impl.ErrRange},
		{"variable MaxRuleVars inside of the right", s, []int64{-1}, []int64{2, -1, 1, -7}, impl.ErrRange},
		{"the last variable", s, []int64{2, -1, -12}, []int64{-1}, impl.ErrRange},
		{"one more than the last variable", s, []int64{-13}, []int64{-1}, impl.ErrRange},
		{"no side", s, nil, nil, impl.ErrMany},
		{"no left side", s, nil, []int64{0}, impl.ErrMany},
		{"no right side", s, []int64{0}, nil, impl.ErrMany},
		{"no right side, variable MaxRuleVars on the left", s, []int64{-7}, nil, impl.ErrMany},
		{"no term on the right, variable MaxRuleVars on the left", s, []int64{-7}, []int64{2, 0}, impl.ErrForm},
		{"variable MaxRuleVars on the right, no term on the left", s, []int64{3, 3}, []int64{-7}, impl.ErrForm},
		{"no term on the left, no node on the right", s, []int64{2}, nil, impl.ErrForm},
		{"a wrong node on the left, no term on the right", s, []int64{4}, []int64{2}, impl.ErrRange},
		{"no term on the left, a wrong node on the right", s, []int64{2}, []int64{4}, impl.ErrForm},
		{"too many nodes on the left, a wrong node on the right", s, chain(25), []int64{4}, impl.ErrMany},
		{"MaxNodes on both sides", s, chain(24), fullComb(), impl.OK},
		{"one node too many on the right", s, chain(24), chain(25), impl.ErrMany},
		{"a signature's fault and no side", taken, nil, nil, impl.ErrTaken},
		{"a signature's fault and wrong sides", taken, []int64{9}, []int64{0, 0}, impl.ErrTaken},
	} {
		e := equation(c.left, c.right)
		mustBe(t, "EquationFault of "+c.what, impl.EquationFault(c.s, e), c.code)
		if c.code != impl.OK {
			mustBe(t, "EquationText of "+c.what, impl.EquationText(c.s, e), impl.TextResult{Code: c.code})
		}
		checkEquation(t, c.s, e)
	}
}

func TestEquationTextKnownValues(t *testing.T) {
	s := exampleSignature()
	for _, c := range []struct {
		left  []int64
		right []int64
		text  string
	}{
		{[]int64{2, 0, -1}, []int64{-1}, "m(e,A)=A"},
		{[]int64{-1}, []int64{-6}, "A=F"},
		{[]int64{0}, []int64{3}, "e=a"},
		{[]int64{2, -2, -1}, []int64{2, -1, -2}, "m(B,A)=m(A,B)"},
		{[]int64{2, 2, -1, -2, -3}, []int64{2, -1, 2, -2, -3}, "m(m(A,B),C)=m(A,m(B,C))"},
	} {
		mustBe(t, "EquationText of "+c.text, impl.EquationText(s, equation(c.left, c.right)), impl.TextResult{Text: c.text})
		mustBe(t, "ReadEquation of "+c.text, impl.ReadEquation(s, c.text), impl.EquationResult{Equation: equation(c.left, c.right)})
	}
}

func TestTextsOfNoEquation(t *testing.T) {
	s := exampleSignature()
	for _, text := range []string{
		"", "=", "==", "a", "A", "m(e,A)", "a=", "=a", "a==a", "a=a=a", "a=a=", "=a=a", "==a", "a= a", "a =a", " a=a", "a=a ", "a=a\n",
		"G=a", "a=G", "G=G", "m(A,G)=A", "A=m(A,L)", "A=i(G)", "M=a", "a=Z", "x=a", "a=x", "a=a,a", "a,a=a", "(a=a)", "i(a=a)", "a=i(a", "i(a=a", "i=a", "a=i",
		"a\xff=a", "a=\xff", "\xff=a", "a\xff\x3d", "a＝a", "a=а", "a:=a", "a->a", wantTermText(s, chain(24)).Text + "=i(" + wantTermText(s, chain(24)).Text + ")",
	} {
		mustBe(t, fmt.Sprintf("ReadEquation of %q", text), impl.ReadEquation(s, text), impl.EquationResult{Code: impl.ErrText})
		checkTexts(t, s, text)
	}
	for _, text := range noTerms {
		for _, both := range []string{text + "=a", "a=" + text, text + "=" + text} {
			checkTexts(t, s, both)
		}
	}
}

// ruleTerms are all terms of at most so many nodes over the example's symbols and these variables' nodes.
func ruleTerms(size int, variables ...int64) [][]int64 {
	terms := [][]int64{}
	for nodes := 1; nodes <= size; nodes++ {
		terms = append(terms, termsOver(exampleSignature(), variables, nodes)...)
	}
	return terms
}

func TestEquationsOfSmallTerms(t *testing.T) {
	terms := ruleTerms(3, -1, -6, -7)
	for _, left := range terms {
		for _, right := range terms {
			checkEquation(t, exampleSignature(), equation(left, right))
		}
	}
}

func TestEquationsOfWhateverLists(t *testing.T) {
	for _, s := range fewSignatures() {
		for _, left := range someTerms() {
			for _, right := range someTerms() {
				checkEquation(t, s, equation(left, right))
			}
		}
	}
	for _, left := range longLists() {
		for _, right := range longLists() {
			checkEquation(t, exampleSignature(), equation(left, right))
		}
	}
	for _, node := range edgeNodes {
		for _, other := range edgeNodes {
			checkEquation(t, exampleSignature(), equation([]int64{node}, []int64{other}))
			checkEquation(t, exampleSignature(), equation([]int64{1, node}, []int64{2, -1, other}))
		}
	}
	for _, s := range allSignatures() {
		checkEquation(t, s, equation([]int64{0}, []int64{-1}))
		checkEquation(t, s, equation(nil, []int64{-7}))
	}
}

func TestPlainEquationKnownValues(t *testing.T) {
	s := exampleSignature()
	for _, c := range []struct {
		what  string
		e     impl.Equation
		plain impl.Equation
	}{
		{"m(C,A)=A", equation([]int64{2, -3, -1}, []int64{-1}), equation([]int64{2, -1, -2}, []int64{-2})},
		{"a plain one", equation([]int64{2, -1, -2}, []int64{2, -2, -1}), equation([]int64{2, -1, -2}, []int64{2, -2, -1})},
		{"another order on the right", equation([]int64{2, -2, -1}, []int64{2, -1, -2}), equation([]int64{2, -1, -2}, []int64{2, -2, -1})},
		{"no variables", equation([]int64{1, 0}, []int64{3}), equation([]int64{1, 0}, []int64{3})},
		{"variables on the right alone", equation([]int64{0}, []int64{2, -12, 2, -1, -12}), equation([]int64{0}, []int64{2, -1, 2, -2, -1})},
		{"the last variable everywhere", equation([]int64{-12}, []int64{1, -12}), equation([]int64{-1}, []int64{1, -1})},
		{"one on the left, another one on the right", equation([]int64{-7}, []int64{-8}), equation([]int64{-1}, []int64{-2})},
		{"a new one ahead of the known one on the right", equation([]int64{1, -9}, []int64{2, -2, -9}), equation([]int64{1, -1}, []int64{2, -2, -1})},
		{"three that change their places in a ring", equation(varied(-2, -3, -1), []int64{-1}), equation(varied(-1, -2, -3), []int64{-3})},
		{"MaxRuleVars falling", equation(varied(-12, -11, -10, -9, -8, -7), []int64{-7}), equation(varied(-1, -2, -3, -4, -5, -6), []int64{-6})},
		{"MaxRuleVars, three on each side", equation(varied(-12, -11, -10), varied(-3, -10, -2, -1)), equation(varied(-1, -2, -3), varied(-4, -3, -5, -6))},
		{"MaxRuleVars on the right", equation([]int64{3}, varied(-12, -1, -11, -2, -10, -3)), equation([]int64{3}, varied(-1, -2, -3, -4, -5, -6))},
	} {
		mustBe(t, "PlainEquation of "+c.what, impl.PlainEquation(s, c.e), impl.EquationResult{Equation: c.plain})
		checkEquation(t, s, c.e)
	}
}

func TestPlainEquationCounts(t *testing.T) {
	s := exampleSignature()
	for _, e := range []impl.Equation{
		equation(varied(-1, -2, -3, -4, -5, -6, -7), []int64{0}), equation([]int64{0}, varied(-12, -11, -10, -9, -8, -7, -6)),
		equation(varied(-1, -2, -3, -4), varied(-5, -6, -7)), equation([]int64{-12}, varied(-1, -2, -3, -4, -5, -6)),
		equation(varied(-1, -2, -3, -4, -5, -6), []int64{-7}), equation(varied(-1, -2, -3, -4, -5, -6, -7, -8, -9, -10, -11, -12), varied(-12, -1)),
	} {
		mustBe(t, fmt.Sprint("PlainEquation of ", e), impl.PlainEquation(s, e), impl.EquationResult{Code: impl.ErrMany})
	}
	for count := 1; count <= 12; count++ {
		for cut := 1; cut < count; cut++ {
			nodes := []int64{-12, -1, -11, -2, -10, -3, -9, -4, -8, -5, -7, -6}[:count]
			checkEquation(t, s, equation(varied(nodes[:cut]...), varied(nodes[cut:]...)))
			checkEquation(t, s, equation(varied(nodes[cut:]...), varied(nodes...)))
		}
	}
}

func TestPlainEquationAsksCodesInTheirOrder(t *testing.T) {
	s, many := exampleSignature(), varied(-1, -2, -3, -4, -5, -6, -7)
	for _, c := range []struct {
		what  string
		s     impl.Signature
		left  []int64
		right []int64
		code  int64
	}{
		{"a signature's fault and all else", signature(impl.Symbol{Name: "a"}, impl.Symbol{Name: "a"}), many, nil, impl.ErrTaken},
		{"no term on the left, no node on the right", s, []int64{2, 0}, nil, impl.ErrForm},
		{"a wrong node on the left, no term on the right", s, []int64{-13}, []int64{2, 0}, impl.ErrRange},
		{"no node on the left, a wrong node on the right", s, nil, []int64{4}, impl.ErrMany},
		{"too many variables on the left, no term on the right", s, many, []int64{2}, impl.ErrForm},
		{"too many variables on the left, a wrong node on the right", s, many, []int64{4}, impl.ErrRange},
		{"no term on the left, too many variables on the right", s, []int64{3, 3}, many, impl.ErrForm},
		{"too many variables", s, many, many, impl.ErrMany},
	} {
		mustBe(t, "PlainEquation: "+c.what, impl.PlainEquation(c.s, equation(c.left, c.right)), impl.EquationResult{Code: c.code})
	}
}

// renamed makes each variable another one, by its number's place in the list.
func renamed(term []int64, numbers []int64) []int64 {
	list := slices.Clone(term)
	for i, node := range list {
		if node < 0 {
			list[i] = -1 - numbers[-1-node]
		}
	}
	return list
}

func TestThereIsOneWayToNumberVariables(t *testing.T) {
	s := exampleSignature()
	renamings := [][]int64{{1, 0, 2}, {2, 1, 0}, {1, 2, 0}, {11, 10, 9}, {0, 11, 5}, {6, 7, 8}, {5, 6, 0}}
	terms := ruleTerms(3, -1, -2, -3)
	for _, left := range terms {
		for _, right := range terms {
			plain := impl.PlainEquation(s, equation(left, right))
			mustBe(t, fmt.Sprint("PlainEquation again of ", left, right), impl.PlainEquation(s, plain.Equation), plain)
			mustBe(t, fmt.Sprint("EquationFault of the plain one of ", left, right), impl.EquationFault(s, plain.Equation), int64(impl.OK))
			for _, numbers := range renamings {
				other := equation(renamed(left, numbers), renamed(right, numbers))
				mustBe(t, fmt.Sprint("PlainEquation of ", left, right, " renamed by ", numbers), impl.PlainEquation(s, other), plain)
			}
		}
	}
}

func TestSameEquationsOfAnyLists(t *testing.T) {
	x, y, z := equation([]int64{2, 0, -1}, []int64{-1}), equation([]int64{-1}, []int64{2, 0, -1}), equation([]int64{2, 0, -1}, []int64{-2})
	wrong := equation([]int64{math.MinInt64, 99}, nil)
	lists := [][]impl.Equation{
		nil, {x}, {y}, {z}, {wrong}, {{}}, {{}, {}}, {x, x}, {x, y}, {y, x}, {x, y, z}, {x, z, y}, {x, {}}, {{}, x}, {wrong, x}, {x, wrong},
		{equation(nil, []int64{0})}, {equation([]int64{0}, nil)}, {equation([]int64{0, 3}, []int64{1})}, {equation([]int64{0}, []int64{3, 1})}, {equation([]int64{0, 3, 1}, nil)},
		slices.Repeat([]impl.Equation{x}, 12), slices.Repeat([]impl.Equation{x}, 13), slices.Repeat([]impl.Equation{x}, 70000), append(slices.Repeat([]impl.Equation{x}, 69999), z),
	}
	for i, a := range lists {
		for j, b := range lists {
			mustBe(t, fmt.Sprintf("SameEquations of the lists %d and %d", i, j), impl.SameEquations(a, b), i == j)
		}
	}
	mustBe(t, "no equation and nil", impl.SameEquations([]impl.Equation{}, nil), true)
	mustBe(t, "nil and no equation", impl.SameEquations(nil, []impl.Equation{}), true)
	mustBe(t, "an empty side and nil", impl.SameEquations([]impl.Equation{equation([]int64{}, nil)}, []impl.Equation{equation(nil, []int64{})}), true)
	mustBe(t, "other memory", impl.SameEquations([]impl.Equation{x, y}, []impl.Equation{
		equation(slices.Clone(x.Left), slices.Clone(x.Right)), equation(slices.Clone(y.Left), slices.Clone(y.Right))}), true)
}

func TestP5TermsAreReadBackFromTheirTexts(t *testing.T) {
	terms := slices.Concat(smallTerms(5), [][]int64{chain(23), chain(24), leftComb(11), rightComb(11), fullComb(), append([]int64{1}, rightComb(11)...)})
	for variable := int64(-12); variable < 0; variable++ {
		terms = append(terms, []int64{variable}, []int64{1, variable}, varied(variable, -13-variable))
	}
	for _, term := range terms {
		text := impl.TermText(exampleSignature(), term)
		mustBe(t, fmt.Sprint("the code of TermText of ", term), text.Code, int64(impl.OK))
		mustBe(t, fmt.Sprint("ReadTerm of the text of ", term), impl.ReadTerm(exampleSignature(), text.Text), impl.TermResult{Term: term})
	}
	for _, s := range goodSignatures() {
		for size := 1; size <= 3; size++ {
			for _, term := range termsOver(s, []int64{-1, -12}, size) {
				text := impl.TermText(s, term)
				mustBe(t, fmt.Sprintf("TermText of %v in %v", term, s), text, wantTermText(s, term))
				mustBe(t, fmt.Sprintf("ReadTerm of the text of %v in %v", term, s), impl.ReadTerm(s, text.Text), impl.TermResult{Term: term})
			}
		}
	}
}

func TestP5EachTermHasOneTextAlone(t *testing.T) {
	s := exampleSignature()
	termOf := map[string][]int64{}
	for _, term := range smallTerms(5) {
		text := impl.TermText(s, term).Text
		if other, known := termOf[text]; known {
			t.Errorf("%v and %v have the text %q", other, term, text)
		}
		termOf[text] = term
	}
	for text := range termOf {
		for _, turned := range []string{" " + text, text + " ", "(" + text + ")", text + "()", text + ",", strings.ToUpper(text) + text, strings.ReplaceAll(text, ",", ", "), strings.ReplaceAll(text, "a", "a()")} {
			if read := impl.ReadTerm(s, turned); read.Code == impl.OK {
				mustBe(t, "the text of what was read", impl.TermText(s, read.Term), impl.TextResult{Text: turned})
				mustBe(t, "a text that is turned", turned, text)
			}
		}
	}
	for length := range 7 {
		for _, letters := range listsOver([]byte("aimA(,)"), length) {
			if read := impl.ReadTerm(s, string(letters)); read.Code == impl.OK {
				mustBe(t, fmt.Sprintf("the text of what was read in %q", letters), impl.TermText(s, read.Term), impl.TextResult{Text: string(letters)})
			}
		}
	}
}

func TestP5EquationsAreReadBackFromTheirTexts(t *testing.T) {
	s := exampleSignature()
	terms := slices.Concat(ruleTerms(3, -1, -6), [][]int64{chain(24), fullComb(), varied(-1, -2, -3, -4, -5, -6)})
	equationOf := map[string]impl.Equation{}
	for _, left := range terms {
		for _, right := range terms {
			e := equation(left, right)
			text := impl.EquationText(s, e)
			mustBe(t, fmt.Sprint("the code of EquationText of ", e), text.Code, int64(impl.OK))
			mustBe(t, fmt.Sprint("ReadEquation of the text of ", e), impl.ReadEquation(s, text.Text), impl.EquationResult{Equation: e})
			if other, known := equationOf[text.Text]; known {
				t.Errorf("%v and %v have the text %q", other, e, text.Text)
			}
			equationOf[text.Text] = e
		}
	}
}

func TestP5EachEquationHasOneTextAlone(t *testing.T) {
	s := exampleSignature()
	for _, text := range []string{"m(e,A)=A", "i(i(A))=A", "m(B,A)=m(A,B)", "e=a", "F=F"} {
		for _, turned := range turnedTexts(text) {
			if read := impl.ReadEquation(s, turned); read.Code == impl.OK {
				mustBe(t, fmt.Sprintf("the text of what was read in %q", turned), impl.EquationText(s, read.Equation), impl.TextResult{Text: turned})
			}
		}
	}
}

// textAnswers calls every function of the chapter with whatever of the arguments it takes.
func textAnswers(s impl.Signature, e impl.Equation, text string) []any {
	return []any{
		impl.TermText(s, e.Left), impl.ReadTerm(s, text), impl.EquationFault(s, e), impl.EquationText(s, e), impl.ReadEquation(s, text),
		impl.PlainEquation(s, e), impl.SameEquations([]impl.Equation{e}, []impl.Equation{{Left: e.Right, Right: e.Left}}), impl.SameEquations([]impl.Equation{e, e}, []impl.Equation{e, e}),
	}
}

var someTexts = []string{
	"", "a", "A", "L", "M", "b", "i(a)", "m(i(A),a)", "m(a)", "a()", "\xff", "a=a", "m(e,A)=A", "b=a", "a=b", "=", "a=", "=a", "a=a=a", "G=a", strings.Repeat("i(", 300), strings.Repeat("a=", 300),
}

func TestP1TextAnswersHangOnTheArgumentsAlone(t *testing.T) {
	for i, s := range fewSignatures() {
		for j, left := range someTerms() {
			for k, right := range someTerms() {
				e, text := equation(left, right), someTexts[(i+3*j+5*k)%len(someTexts)]
				first := textAnswers(s, e, text)
				textAnswers(exampleSignature(), equation([]int64{2, -3, -1}, []int64{-2}), "m(e,A)=A")
				textAnswers(constants(3), equation([]int64{2}, []int64{0}), "c=")
				mustBe(t, "the same call again", textAnswers(s, e, text), first)
				again := textAnswers(signature(guardSymbols(s.Symbols).list...), equation(guardNumbers(left).list, guardNumbers(right).list), strings.Clone(text))
				mustBe(t, "the same call with other memory", again, first)
			}
		}
	}
}

func TestP1NilAndEmptySidesAreTheSame(t *testing.T) {
	none := []int64{}
	for _, s := range fewSignatures() {
		mustBe(t, "two empty sides", textAnswers(s, equation(none, none), ""), textAnswers(s, impl.Equation{}, ""))
		for _, term := range someTerms() {
			mustBe(t, "an empty left side", textAnswers(s, equation(none, term), "a"), textAnswers(s, equation(nil, term), "a"))
			mustBe(t, "an empty right side", textAnswers(s, equation(term, none), "a"), textAnswers(s, equation(term, nil), "a"))
		}
	}
	mustBe(t, "an empty signature", textAnswers(signature([]impl.Symbol{}...), equation([]int64{0}, []int64{-1}), "a=a"), textAnswers(impl.Signature{}, equation([]int64{0}, []int64{-1}), "a=a"))
}

func TestP1TextArgumentsAreNotChanged(t *testing.T) {
	for _, s := range fewSignatures() {
		for _, left := range someTerms() {
			for _, right := range someTerms() {
				symbols, first, second := guardSymbols(s.Symbols), guardNumbers(left), guardNumbers(right)
				for _, text := range []string{"", "a=a", "m(i(A),a)"} {
					textAnswers(signature(symbols.list...), equation(first.list, second.list), text)
				}
				symbols.mustBeUnchanged(t, "a function of texts")
				first.mustBeUnchanged(t, "a function of equations")
				second.mustBeUnchanged(t, "a function of equations")
			}
		}
	}
}

func TestP1ListsOfEquationsAreNotChanged(t *testing.T) {
	left, right := guardNumbers([]int64{2, -3, -1}), guardNumbers([]int64{-1})
	a := []impl.Equation{equation(left.list, right.list), equation(right.list, left.list), {}}
	before := []impl.Equation{equation([]int64{2, -3, -1}, []int64{-1}), equation([]int64{-1}, []int64{2, -3, -1}), {}}
	impl.SameEquations(a, before)
	impl.SameEquations(before, a[:2])
	mustBe(t, "a list that was compared", a, before)
	left.mustBeUnchanged(t, "SameEquations")
	right.mustBeUnchanged(t, "SameEquations")
}

// checkNewSides overwrites each side of an answer by itself, and then the arguments, and holds the rest against what was asked for.
func checkNewSides(t *testing.T, who string, want impl.Equation, ask func() impl.Equation, arguments ...guarded[int64]) {
	t.Helper()
	checkNewNumbers(t, who+", the left side", want.Left, func() []int64 { return ask().Left })
	checkNewNumbers(t, who+", the right side", want.Right, func() []int64 { return ask().Right })
	kept, spoilt, turned := ask(), ask(), ask()
	overwriteNumbers(spoilt.Left)
	mustBe(t, who+": the right side beside the left one that was overwritten", spoilt.Right, want.Right)
	overwriteNumbers(turned.Right)
	mustBe(t, who+": the left side beside the right one that was overwritten", turned.Left, want.Left)
	for _, argument := range arguments {
		argument.mustBeUnchanged(t, "who overwrote the answer of "+who)
		overwriteNumbers(argument.whole)
	}
	mustBe(t, who+" of arguments that were overwritten", kept, want)
}

func TestP1TextAnswersAreNewMemory(t *testing.T) {
	s := exampleSignature()
	for _, term := range slices.Concat(smallTerms(4), [][]int64{chain(24), leftComb(11)}) {
		text := wantTermText(s, term).Text
		checkNewNumbers(t, "ReadTerm", term, func() []int64 { return impl.ReadTerm(s, text).Term })
	}
	terms := slices.Concat(ruleTerms(2, -1, -2, -6), [][]int64{{2, -3, -1}, chain(24), leftComb(11)})
	for _, left := range terms {
		for _, right := range terms {
			text := wantEquationText(s, equation(left, right)).Text
			checkNewSides(t, "ReadEquation", equation(left, right), func() impl.Equation { return impl.ReadEquation(s, text).Equation })
			first, second := guardNumbers(left), guardNumbers(right)
			checkNewSides(t, "PlainEquation", wantPlain(s, equation(left, right)).Equation,
				func() impl.Equation { return impl.PlainEquation(s, equation(first.list, second.list)).Equation }, first, second)
		}
	}
}

func TestP1PlainEquationOfSidesThatShareMemory(t *testing.T) {
	s, given := exampleSignature(), guardNumbers([]int64{2, -3, 1, -1})
	plain := impl.PlainEquation(s, equation(given.list, given.list))
	mustBe(t, "both sides one list", plain, impl.EquationResult{Equation: equation([]int64{2, -1, 1, -2}, []int64{2, -1, 1, -2})})
	overwriteNumbers(plain.Equation.Left)
	mustBe(t, "the right side beside the left one that was overwritten", plain.Equation.Right, []int64{2, -1, 1, -2})
	mustBe(t, "a side and its part", impl.PlainEquation(s, equation(given.list[2:], given.list)), impl.EquationResult{Equation: equation([]int64{1, -1}, []int64{2, -2, 1, -1})})
	given.mustBeUnchanged(t, "PlainEquation of sides that share memory")
}

func TestP1ATextIsNotItsSymbolsName(t *testing.T) {
	for _, name := range goodNames {
		name = strings.Clone(name)
		s := signature(impl.Symbol{Name: name})
		text := impl.TermText(s, []int64{0})
		mustBe(t, "TermText of a constant", text, impl.TextResult{Text: name})
		if unsafe.StringData(text.Text) == unsafe.StringData(name) {
			t.Errorf("TermText of a constant answers the memory of its name %q", name)
		}
	}
}

func TestP1NothingIsKeptOfATextOrAnEquation(t *testing.T) {
	s, e := exampleSignature(), equation([]int64{2, -3, -1}, []int64{-1})
	textAnswers(s, e, "m(i(A),a)")
	s.Symbols[1] = impl.Symbol{Name: "j", Arity: 2}
	copy(e.Left, []int64{1, 0, -2})
	mustBe(t, "TermText by the new name", impl.TermText(s, e.Left), impl.TextResult{Text: "j(e,B)"})
	mustBe(t, "ReadTerm of the old name", impl.ReadTerm(s, "m(i(A),a)"), impl.TermResult{Code: impl.ErrText})
	mustBe(t, "ReadTerm of the new name", impl.ReadTerm(s, "j(e,B)"), impl.TermResult{Term: []int64{1, 0, -2}})
	mustBe(t, "EquationText of the new sides", impl.EquationText(s, e), impl.TextResult{Text: "j(e,B)=A"})
	mustBe(t, "PlainEquation of the new sides", impl.PlainEquation(s, e), impl.EquationResult{Equation: equation([]int64{1, 0, -1}, []int64{-2})})
}
