package tests

import (
	"fmt"
	"math"
	"slices"
	"testing"

	"loop.example/g00653/impl"
)

// apart makes each variable of a rule's side greater by MaxRuleVars.
func apart(side []int64) []int64 {
	moved := slices.Clone(side)
	for place, node := range side {
		if isKnownVariable(node) {
			moved[place] = node - 6
		}
	}
	return moved
}

// overlap is a term in which two rules fit, one at the root and the other one inside, with the place at which that is, and what both make of it.
type overlap struct {
	whole tree
	place int64
	left  tree
	right tree
}

// wantOverlap goes through the outer one's nodes ahead of the place, too: what stands for variables there moves it.
func wantOverlap(s impl.Signature, outer impl.Equation, inner impl.Equation, place int64) (overlap, int64) {
	if code := wantRulesFault(s, []impl.Equation{outer, inner}); code != impl.OK {
		return overlap{}, code
	}
	if place < 0 || place >= int64(len(outer.Left)) {
		return overlap{}, impl.ErrRange
	}
	if isKnownVariable(outer.Left[place]) {
		return overlap{}, impl.ErrForm
	}
	whole, trees := wholeTree(s, outer.Left), map[int64]tree{}
	code := unifyTrees(partsOf(whole)[place], wholeTree(s, apart(inner.Left)), trees)
	turned := graft(whole, int(place), wholeTree(s, apart(inner.Right)))
	moved := 0
	for _, node := range outer.Left[:place] {
		moved += len(nodesOf(dress(tree{node: node}, trees)))
	}
	return overlap{dress(whole, trees), int64(moved), dress(wholeTree(s, outer.Right), trees), dress(turned, trees)}, code
}

// wantPeak needs not ask how many nodes there are ahead of the binding: with it there are no fewer.
func wantPeak(s impl.Signature, outer impl.Equation, inner impl.Equation, place int64) impl.EquationResult {
	both, code := wantOverlap(s, outer, inner, place)
	if code != impl.OK {
		return impl.EquationResult{Code: code}
	}
	left, right := nodesOf(both.left), nodesOf(both.right)
	if len(left) > 24 || len(right) > 24 {
		return impl.EquationResult{Code: impl.ErrMany}
	}
	return wantPlain(s, equation(left, right))
}

func wantPeaks(s impl.Signature, outer impl.Equation, inner impl.Equation, same bool) impl.EquationsResult {
	if code := wantRulesFault(s, []impl.Equation{outer, inner}); code != impl.OK {
		return impl.EquationsResult{Code: code}
	}
	first, told := int64(0), impl.EquationsResult{}
	if same {
		first = 1
	}
	for place := first; place < int64(len(outer.Left)); place++ {
		peak := wantPeak(s, outer, inner, place)
		switch peak.Code {
		case impl.OK:
			told.List = append(told.List, peak.Equation)
		case impl.ErrMany:
			return impl.EquationsResult{Code: impl.ErrMany}
		}
	}
	return told
}

func wantAllPeaks(s impl.Signature, rules []impl.Equation) impl.EquationsResult {
	if code := wantRulesFault(s, rules); code != impl.OK {
		return impl.EquationsResult{Code: code}
	}
	all := impl.EquationsResult{}
	for first := range rules {
		for second := range rules {
			peaks := wantPeaks(s, rules[first], rules[second], first == second)
			all.List = append(all.List, peaks.List...)
			if peaks.Code != impl.OK || len(all.List) > 200 {
				return impl.EquationsResult{Code: impl.ErrMany}
			}
		}
	}
	return all
}

func wantUnjoined(s impl.Signature, rules []impl.Equation, fuel int64) impl.EquationsResult {
	if code := wantRulesFault(s, rules); code != impl.OK {
		return impl.EquationsResult{Code: code}
	}
	if fuel < 0 || fuel > 200 {
		return impl.EquationsResult{Code: impl.ErrRange}
	}
	all, unjoined := wantAllPeaks(s, rules), impl.EquationsResult{}
	if all.Code != impl.OK {
		return all
	}
	for _, peak := range all.List {
		joined := wantJoined(s, rules, peak.Left, peak.Right, fuel)
		if joined.Code != impl.OK {
			return impl.EquationsResult{Code: joined.Code}
		}
		if joined.Value == 0 {
			unjoined.List = append(unjoined.List, peak)
		}
	}
	return unjoined
}

func wantConfluent(s impl.Signature, order []int64, rules []impl.Equation) bool {
	if !wantDecreasing(s, order, rules) {
		return false
	}
	unjoined := wantUnjoined(s, rules, 200)
	return unjoined.Code == impl.OK && len(unjoined.List) == 0
}

// briefRules tells the first ones of rules, and these by their first nodes alone.
func briefRules(rules ...impl.Equation) string {
	text := fmt.Sprint(len(rules), " rules")
	for _, rule := range rules[:min(len(rules), 13)] {
		text += fmt.Sprint(", ", brief(rule.Left), "=", brief(rule.Right))
	}
	return text
}

// checkPeaksOfTwo asks both rules for their peaks: at all places, at numbers around them, and at all of them together.
func checkPeaksOfTwo(t *testing.T, s impl.Signature, outer impl.Equation, inner impl.Equation) {
	t.Helper()
	who := fmt.Sprintf("of %s in %.60v", briefRules(outer, inner), s)
	places := []int64{math.MinInt64, -2, -1, int64(len(outer.Left)), int64(len(outer.Left)) + 1, 24, 1 << 32, math.MaxInt64}
	for place := range int64(min(len(outer.Left), 30)) {
		places = append(places, place)
	}
	for _, place := range places {
		mustBe(t, fmt.Sprint("PeakOf at ", place, " ", who), impl.PeakOf(s, outer, inner, place), wantPeak(s, outer, inner, place))
	}
	for _, same := range []bool{false, true} {
		mustBeEquations(t, fmt.Sprint("PeaksOf, ", same, ", ", who), impl.PeaksOf(s, outer, inner, same), wantPeaks(s, outer, inner, same))
	}
}

// checkPeaks asks all that is asked of rules together, with some fuels.
func checkPeaks(t *testing.T, s impl.Signature, order []int64, rules []impl.Equation, fuels ...int64) {
	t.Helper()
	who := fmt.Sprintf("of %s in %.60v", briefRules(rules...), s)
	mustBeEquations(t, "AllPeaks "+who, impl.AllPeaks(s, rules), wantAllPeaks(s, rules))
	for _, fuel := range fuels {
		mustBeEquations(t, fmt.Sprint("UnjoinedOf, with ", fuel, ", ", who), impl.UnjoinedOf(s, rules, fuel), wantUnjoined(s, rules, fuel))
	}
	mustBe(t, fmt.Sprint("IsConfluent by ", order, " ", who), impl.IsConfluent(s, order, rules), wantConfluent(s, order, rules))
}

// invertHighest is the precedence by which the ten rules of groups fall: e, a, m, i.
var invertHighest = []int64{0, 3, 2, 1}

func TestBoundsOfPeaksAreThoseOfTheDocument(t *testing.T) {
	mustBe(t, "MaxPeaks", impl.MaxPeaks, 200)
}

func TestPeakOfKnownValues(t *testing.T) {
	s, together := exampleSignature(), "m(m(A,B),C)=m(A,m(B,C))"
	for _, c := range []struct {
		what         string
		outer, inner string
		place        int64
		want         string
	}{
		{"the document's example", "i(i(A))=A", "i(i(A))=A", 1, "i(A)=i(A)"},
		{"a rule at its own root", "i(i(A))=A", "i(i(A))=A", 0, "A=A"},
		{"a rule at its own root, with two variables", "m(A,B)=m(B,A)", "m(A,B)=m(B,A)", 0, "m(A,B)=m(A,B)"},
		{"a rule at its own root, with brackets", together, together, 0, "m(A,m(B,C))=m(A,m(B,C))"},
		{"a rule inside of itself, with brackets", together, together, 1, "m(m(A,B),m(C,D))=m(m(A,m(B,C)),D)"},
		{"another rule at the root", together, "m(A,e)=A", 0, "m(A,m(B,e))=m(A,B)"},
		{"another rule at the root, the outer one's variables stand for constants", "m(A,e)=A", "m(e,A)=A", 0, "e=e"},
		{"another rule inside", together, "m(e,A)=A", 1, "m(e,m(A,B))=m(A,B)"},
		{"another rule inside, a variable of it twice", together, "m(i(A),A)=e", 1, "m(i(A),m(A,B))=m(e,B)"},
		{"another rule inside, in the last argument", "m(A,i(m(A,e)))=A", "m(i(A),e)=A", 3, "i(A)=m(i(A),i(A))"},
		{"the same variables, one alone", "m(A,i(A))=e", "i(i(A))=A", 2, "e=m(i(A),A)"},
		{"the same variables, two", "i(m(A,B))=m(i(B),i(A))", "m(A,B)=m(B,A)", 1, "m(i(A),i(B))=i(m(A,B))"},
		{"the same variables, in the inner one in another order", "i(m(A,B))=A", "m(B,i(A))=B", 1, "A=i(A)"},
		{"the last variables of rules", "i(F)=F", "i(F)=e", 0, "A=e"},
		{"the last place, a constant", "m(e,a)=e", "a=i(e)", 2, "e=m(e,i(e))"},
		{"the last place of one of MaxNodes", "i(i(i(i(i(i(i(i(i(i(i(i(i(i(i(i(i(i(i(i(i(i(i(a)))))))))))))))))))))))=e", "a=e", 23, "e=i(i(i(i(i(i(i(i(i(i(i(i(i(i(i(i(i(i(i(i(i(i(i(e)))))))))))))))))))))))"},
		{"the first leaf", "m(e,A)=A", "e=a", 1, "A=m(a,A)"},
		{"the whole of one constant", "a=e", "a=i(e)", 0, "e=i(e)"},
		{"the whole of one constant, turned", "a=i(e)", "a=e", 0, "i(e)=e"},
		{"without variables", "i(a)=e", "a=m(e,e)", 1, "e=i(m(e,e))"},
		{"a variable of the inner one twice makes two of the outer one the same", "m(m(A,B),C)=m(A,m(B,C))", "m(A,A)=e", 1, "m(A,m(A,B))=m(e,B)"},
		{"a variable of the outer one twice turns both places", "m(i(A),A)=A", "i(i(A))=e", 1, "i(A)=m(e,i(A))"},
		{"the inner one's Right is put in, then bound", "m(i(m(A,B)),C)=C", "i(m(e,A))=m(A,A)", 1, "A=m(m(B,B),A)"},
		{"a Right without variables", "i(i(A))=e", "i(i(A))=e", 1, "e=i(e)"},
		{"variables are told from the left to the right", "m(i(A),m(B,C))=m(C,m(B,A))", "i(e)=a", 1, "m(A,m(B,e))=m(a,m(B,A))"},
		{"six variables", "m(i(A),m(B,m(C,m(D,E))))=m(E,m(D,m(C,m(B,A))))", "i(m(A,B))=m(B,A)", 1, "m(A,m(B,m(C,m(D,m(E,F)))))=m(m(F,E),m(D,m(C,m(B,A))))"},
	} {
		mustBe(t, "PeakOf: "+c.what, impl.PeakOf(s, law(c.outer), law(c.inner), c.place), impl.EquationResult{Equation: law(c.want)})
		checkPeaksOfTwo(t, s, law(c.outer), law(c.inner))
		checkPeaksOfTwo(t, s, law(c.inner), law(c.outer))
	}
}

func TestPeakOfKnownCodes(t *testing.T) {
	s := exampleSignature()
	// By these two each of the outer one's variables stands for a term with that of the one ahead of it twice in it.
	doubling, doubled := "m(A,m(m(A,A),m(B,m(m(B,B),m(C,m(C,C))))))", "m(m(e,e),m(A,m(A,m(B,m(B,C)))))"
	for _, c := range []struct {
		what         string
		outer, inner string
		place        int64
		code         int64
	}{
		{"the least number", "m(e,A)=A", "e=a", math.MinInt64, impl.ErrRange},
		{"place -1", "m(e,A)=A", "e=a", -1, impl.ErrRange},
		{"place 0", "m(e,A)=A", "e=a", 0, impl.ErrNone},
		{"place 1", "m(e,A)=A", "e=a", 1, impl.OK},
		{"the last place, a variable", "m(e,A)=A", "e=a", 2, impl.ErrForm},
		{"one place more", "m(e,A)=A", "e=a", 3, impl.ErrRange},
		{"two places more", "m(e,A)=A", "e=a", 4, impl.ErrRange},
		{"the greatest number", "m(e,A)=A", "e=a", math.MaxInt64, impl.ErrRange},
		{"a place of the inner one alone", "a=e", "m(A,B)=A", 1, impl.ErrRange},
		{"the last place, a constant", "m(A,e)=A", "e=a", 2, impl.OK},
		{"one place more behind a constant", "m(A,e)=A", "e=a", 3, impl.ErrRange},
		{"the only place", "e=a", "e=a", 0, impl.OK},
		{"one place more than the only one", "e=a", "e=a", 1, impl.ErrRange},
		{"the first argument, a variable", "m(A,e)=A", "m(A,B)=A", 1, impl.ErrForm},
		{"a variable deep inside", "i(i(i(F)))=e", "i(A)=A", 3, impl.ErrForm},
		{"two first nodes", "m(e,A)=A", "i(A)=A", 0, impl.ErrNone},
		{"two constants", "a=i(e)", "e=i(a)", 0, impl.ErrNone},
		{"two constants inside", "m(e,A)=A", "m(a,A)=A", 0, impl.ErrNone},
		{"a variable in what it would stand for", "m(A,A)=A", "m(A,i(A))=e", 0, impl.ErrNone},
		{"a variable in what it would stand for, one of the same variables", "m(A,A)=A", "m(B,i(B))=B", 0, impl.ErrNone},
		{"a variable twice over two constants", "m(A,A)=A", "m(e,a)=e", 0, impl.ErrNone},
		{"a variable twice over two constants, in the inner one", "i(m(e,a))=e", "m(A,A)=A", 1, impl.ErrNone},
		{"the other way round it would fit", "i(A)=A", "m(i(A),A)=e", 0, impl.ErrNone},
		{"a term that grows too great on the way", doubling + "=e", doubled + "=e", 0, impl.ErrMany},
		{"a term that grows too great on the way, ahead of two constants", "m(" + doubling + ",a)=e", "m(" + doubled + ",e)=e", 0, impl.ErrMany},
		{"two constants ahead of a term that grows too great", "m(a," + doubling + ")=e", "m(e," + doubled + ")=e", 0, impl.ErrNone},
	} {
		mustBe(t, "the code of PeakOf: "+c.what, impl.PeakOf(s, law(c.outer), law(c.inner), c.place).Code, c.code)
		checkPeaksOfTwo(t, s, law(c.outer), law(c.inner))
		checkPeaksOfTwo(t, s, law(c.inner), law(c.outer))
	}
}

func TestPeakOfFillsMaxNodesAndNoMore(t *testing.T) {
	s := exampleSignature()
	twice := read("m(A,A)")
	for _, c := range []struct {
		what         string
		outer, inner impl.Equation
		place        int64
		left, right  int
	}{
		{"what is put in", equation(chain(23), read("e")), law("a=i(e)"), 22, 1, 24},
		{"what is put in, one more", equation(chain(24), read("e")), law("a=i(e)"), 23, 1, 25},
		{"what is put in at the root", law("a=e"), equation(read("a"), chain(24)), 0, 1, 24},
		{"what is put in at the root of a greater one", equation(chain(24), read("e")), equation(chain(24), append(slices.Repeat([]int64{1}, 23), 0)), 0, 1, 24},
		{"what is put in an argument", equation(slices.Concat([]int64{2, 1, 0}, chain(11)), read("e")), equation(read("i(e)"), chain(12)), 1, 1, 24},
		{"what is put in an argument, one more", equation(slices.Concat([]int64{2, 1, 0}, chain(12)), read("e")), equation(read("i(e)"), chain(12)), 1, 1, 25},
		{"what is put in has MaxNodes", equation(read("i(a)"), read("e")), equation(read("a"), chain(24)), 1, 1, 25},
		{"what is put in has a variable", equation(chain(12), read("e")), law("i(A)=m(A,i(A))"), 0, 1, 24},
		{"what is put in has a variable, one more", equation(chain(12), read("e")), law("i(A)=m(A,m(A,e))"), 0, 1, 25},
		{"the left side", law("i(A)=i(m(A,A))"), equation(append([]int64{1}, chain(11)...), read("e")), 0, 24, 1},
		{"the left side, one more", law("i(A)=m(A,A)"), equation(append([]int64{1}, chain(12)...), read("e")), 0, 25, 1},
		{"the left side, many more", equation(read("i(A)"), varied(slices.Repeat([]int64{-1}, 12)...)), equation(chain(24), read("e")), 0, 287, 1},
		{"the right side", equation(slices.Concat([]int64{2, 1, -1}, []int64{1}, twice), read("e")), equation(append([]int64{1}, chain(10)...), read("e")), 1, 1, 24},
		{"the right side, one more", equation(slices.Concat([]int64{2, 1, -1}, twice), read("e")), equation(append([]int64{1}, chain(11)...), read("e")), 1, 1, 25},
		{"the right side, from the inner one's Right", law("i(A)=e"), equation(read("i(m(A,B))"), varied(slices.Repeat([]int64{-1}, 12)...)), 0, 1, 23},
		{"both sides", law("m(i(A),A)=i(m(A,A))"), equation(append([]int64{1}, chain(11)...), chain(12)), 1, 24, 24},
		{"both sides, one more on the left", law("m(i(A),A)=m(A,m(e,A))"), equation(append([]int64{1}, chain(11)...), chain(12)), 1, 25, 24},
		{"both sides, one more on the right", law("m(i(A),A)=i(m(A,A))"), equation(append([]int64{1}, chain(11)...), chain(13)), 1, 24, 25},
		{"both sides, one more on both", law("m(i(A),A)=m(A,A)"), equation(append([]int64{1}, chain(12)...), chain(12)), 1, 25, 25},
		{"the term in which both fit is greater, but not what they make of it", law("m(i(A),m(A,i(A)))=A"), equation(append([]int64{1}, chain(10)...), read("e")), 1, 10, 24},
		{"the term in which both fit has more than MaxNodes, but neither of what they make of it", law("m(m(A,m(A,A)),A)=A"), equation(slices.Concat(read("m(m(A,m(B,C)),a)")[:6], chain(10)), read("e")), 0, 10, 1},
	} {
		both, code := wantOverlap(s, c.outer, c.inner, c.place)
		mustBe(t, "the code ahead of the nodes: "+c.what, code, int64(impl.OK))
		mustBe(t, "how many nodes there are: "+c.what, [2]int{len(nodesOf(both.left)), len(nodesOf(both.right))}, [2]int{c.left, c.right})
		told, want := impl.PeakOf(s, c.outer, c.inner, c.place), wantPeak(s, c.outer, c.inner, c.place)
		mustBe(t, "PeakOf: "+c.what, told, want)
		mustBe(t, "whether PeakOf tells ErrMany: "+c.what, told.Code == impl.ErrMany, c.left > 24 || c.right > 24)
		checkPeaksOfTwo(t, s, c.outer, c.inner)
		checkPeaksOfTwo(t, s, c.inner, c.outer)
	}
}

func TestPeakOfHasNoMoreVariablesThanAPlainOneMayHave(t *testing.T) {
	s := exampleSignature()
	for _, c := range []struct {
		what         string
		outer, inner string
		place        int64
		variables    int
	}{
		{"six of the outer one, none of the inner one", "m(i(A),m(B,m(C,m(D,m(E,F)))))=m(F,m(E,m(D,m(C,m(B,A)))))", "i(e)=a", 1, 5},
		{"six of the outer one, and the first one is one of the inner one", "m(i(A),m(B,m(C,m(D,m(E,F)))))=m(F,m(E,m(D,m(C,m(B,A)))))", "i(A)=A", 1, 6},
		{"six of the outer one, of which one becomes two", "m(i(A),m(B,m(C,m(D,m(E,F)))))=m(F,m(E,m(D,m(C,m(B,A)))))", "i(m(A,B))=m(B,A)", 1, 7},
		{"six of the outer one, of which one becomes two, and both are in the Left alone", "m(i(A),m(B,m(C,m(D,m(E,F)))))=m(F,m(E,m(D,m(C,m(B,A)))))", "i(m(A,B))=e", 1, 7},
		{"six of the outer one, of which one becomes two, and both are in the Right alone", "m(i(A),m(B,m(C,m(D,m(E,F)))))=e", "i(m(A,B))=m(B,A)", 1, 7},
		{"six of the outer one, of which one becomes two, and one is in the Right alone", "m(i(A),m(B,m(C,m(D,m(E,F)))))=e", "i(m(A,B))=B", 1, 6},
		{"six of the outer one, of which one becomes two, and none is in a side", "m(i(A),m(B,m(C,m(D,m(E,F)))))=m(F,m(E,m(D,m(C,B))))", "i(m(A,B))=e", 1, 5},
		{"five of the outer one, of which one becomes two", "m(i(A),m(B,m(C,m(D,E))))=m(E,m(D,m(C,m(B,A))))", "i(m(A,B))=m(B,A)", 1, 6},
		{"six of the outer one, of which one becomes three", "m(i(A),m(B,m(C,m(D,m(E,F)))))=A", "i(m(A,m(B,C)))=e", 1, 8},
		{"two of the outer one, of which one becomes six", "m(i(A),B)=m(A,B)", "i(m(A,m(B,m(C,m(D,m(E,F))))))=e", 1, 7},
		{"one of the outer one, which becomes six", "m(i(A),A)=A", "i(m(A,m(B,m(C,m(D,m(E,F))))))=e", 1, 6},
		{"four and four, of which two on each side are new", "m(m(A,m(B,C)),D)=m(m(A,B),m(C,D))", "m(m(A,B),m(C,D))=m(m(D,C),m(B,A))", 1, 5},
		{"six and six at the root", "m(A,m(B,m(C,m(D,m(E,F)))))=m(F,m(E,m(D,m(C,m(B,A)))))", "m(A,m(B,m(C,m(D,m(E,F)))))=e", 0, 6},
	} {
		both, code := wantOverlap(s, law(c.outer), law(c.inner), c.place)
		mustBe(t, "the code ahead of the variables: "+c.what, code, int64(impl.OK))
		nodes := slices.Concat(nodesOf(both.left), nodesOf(both.right))
		slices.Sort(nodes)
		variables := slices.DeleteFunc(slices.Compact(nodes), func(node int64) bool { return node >= 0 })
		mustBe(t, "how many variables there are: "+c.what, len(variables), c.variables)
		told := impl.PeakOf(s, law(c.outer), law(c.inner), c.place)
		mustBe(t, "PeakOf: "+c.what, told, wantPeak(s, law(c.outer), law(c.inner), c.place))
		mustBe(t, "whether PeakOf tells ErrMany: "+c.what, told.Code == impl.ErrMany, c.variables > 6)
		checkPeaksOfTwo(t, s, law(c.outer), law(c.inner))
		checkPeaksOfTwo(t, s, law(c.inner), law(c.outer))
	}
}

func TestPeaksOfKnownValues(t *testing.T) {
	s, none := exampleSignature(), laws()
	for _, c := range []struct {
		what             string
		outer, inner     string
		asTwo, asTheSame []impl.Equation
	}{
		{"the document's example", "i(i(A))=A", "i(i(A))=A", laws("A=A", "i(A)=i(A)"), laws("i(A)=i(A)")},
		{"a rule of one place", "a=e", "a=e", laws("e=e"), none},
		{"two rules at the root", "m(e,A)=A", "m(A,e)=i(A)", laws("e=i(e)"), none},
		{"nothing at the root", "m(e,e)=a", "e=i(a)", laws("a=m(i(a),e)", "a=m(e,i(a))"), laws("a=m(i(a),e)", "a=m(e,i(a))")},
		{"nothing at any place", "m(a,i(A))=A", "m(e,A)=A", none, none},
		{"places of variables alone inside", "m(A,B)=A", "m(A,e)=i(A)", laws("A=i(A)"), none},
		{"places of variables between others", "m(A,m(e,A))=A", "e=i(e)", laws("A=m(A,m(i(e),A))"), laws("A=m(A,m(i(e),A))")},
		{"places of variables, where all would fit", "m(A,i(B))=B", "i(A)=A", laws("A=m(B,A)"), laws("A=m(B,A)")},
		{"places of all kinds rise", "i(i(i(A)))=e", "i(i(A))=a", laws("e=a", "e=i(a)", "e=i(i(a))"), laws("e=i(a)", "e=i(i(a))")},
		{"places at which nothing is found stand between others", "m(i(e),i(a))=e", "i(A)=A", laws("e=m(e,i(a))", "e=m(i(e),a)"), laws("e=m(e,i(a))", "e=m(i(e),a)")},
		{"the same peak at two places", "m(a,a)=e", "a=a", laws("e=m(a,a)", "e=m(a,a)"), laws("e=m(a,a)", "e=m(a,a)")},
	} {
		mustBeEquations(t, "PeaksOf two: "+c.what, impl.PeaksOf(s, law(c.outer), law(c.inner), false), impl.EquationsResult{List: c.asTwo})
		mustBeEquations(t, "PeaksOf the same: "+c.what, impl.PeaksOf(s, law(c.outer), law(c.inner), true), impl.EquationsResult{List: c.asTheSame})
		checkPeaksOfTwo(t, s, law(c.outer), law(c.inner))
		checkPeaksOfTwo(t, s, law(c.inner), law(c.outer))
	}
}

func TestPeaksOfTellsTheOtherCodesOfItsPlaces(t *testing.T) {
	s, all := exampleSignature(), "m(i(A),m(B,m(C,m(D,m(E,F)))))=m(F,m(E,m(D,m(C,m(B,A)))))"
	for _, c := range []struct {
		what             string
		outer, inner     impl.Equation
		asTwo, asTheSame int64
	}{
		{"none ahead of it", equation(chain(24), read("e")), law("a=i(e)"), impl.ErrMany, impl.ErrMany},
		{"a peak ahead of it", law("i(i(A))=m(A,m(A,A))"), equation(chain(9), read("e")), impl.ErrMany, impl.ErrMany},
		{"a peak ahead of it, and still room", law("i(i(A))=m(A,m(A,A))"), equation(chain(8), read("e")), impl.OK, impl.OK},
		{"a peak behind it", equation(slices.Concat([]int64{2, 1, 0}, chain(20)), read("e")), law("i(A)=m(A,m(A,e))"), impl.ErrMany, impl.ErrMany},
		{"at the root, nothing behind it", law("m(i(e),A)=m(A,A)"), equation(slices.Concat([]int64{2, 1, -1}, chain(13)), read("e")), impl.ErrMany, impl.OK},
		{"at the root, and still room", law("m(i(e),A)=m(A,A)"), equation(slices.Concat([]int64{2, 1, -1}, chain(11)), read("e")), impl.OK, impl.OK},
		{"at the root, a peak behind it", law("i(i(A))=m(A,m(A,A))"), equation(chain(10), read("e")), impl.ErrMany, impl.ErrMany},
		{"too many variables", law(all), law("i(m(A,B))=e"), impl.ErrMany, impl.ErrMany},
		{"just enough variables", law(all), law("i(i(A))=A"), impl.OK, impl.OK},
		{"terms that grow too great on the way", law("m(A,m(m(A,A),m(B,m(m(B,B),m(C,m(C,C))))))=e"), law("m(m(e,e),m(A,m(A,m(B,m(B,C)))))=e"), impl.ErrMany, impl.OK},
	} {
		mustBe(t, "the code of PeaksOf two: "+c.what, impl.PeaksOf(s, c.outer, c.inner, false).Code, c.asTwo)
		mustBe(t, "the code of PeaksOf the same: "+c.what, impl.PeaksOf(s, c.outer, c.inner, true).Code, c.asTheSame)
		checkPeaksOfTwo(t, s, c.outer, c.inner)
		checkPeaksOfTwo(t, s, c.inner, c.outer)
	}
}

func TestAllPeaksKnownValues(t *testing.T) {
	s := exampleSignature()
	for _, c := range []struct {
		what        string
		rules, want []impl.Equation
	}{
		{"nil", nil, nil},
		{"no rules", laws(), nil},
		{"one rule without a peak", laws("a=e"), nil},
		{"one rule, with itself", laws("i(i(A))=A"), laws("i(A)=i(A)")},
		{"one rule, with itself, at two places", laws("i(i(i(A)))=e"), laws("e=i(e)", "e=i(i(e))")},
		{"two rules in both turns", laws("m(e,A)=A", "m(e,e)=a"), laws("e=a", "a=e")},
		{"two rules in both turns, turned", laws("m(e,e)=a", "m(e,A)=A"), laws("a=e", "e=a")},
		{"two rules, with themselves, too", laws("i(i(A))=A", "i(e)=e"), laws("i(A)=i(A)", "e=i(e)")},
		{"two rules, with themselves, too, turned", laws("i(e)=e", "i(i(A))=A"), laws("e=i(e)", "i(A)=i(A)")},
		{"two rules without a peak", laws("a=e", "i(i(e))=e"), nil},
		{"the same rule twice is not the same one at its root", laws("a=e", "a=e"), laws("e=e", "e=e")},
		{"the same rule twice, with places inside", laws("i(i(A))=A", "i(i(A))=A"), laws("i(A)=i(A)", "A=A", "i(A)=i(A)", "A=A", "i(A)=i(A)", "i(A)=i(A)")},
		{"three rules", laws("a=e", "i(a)=e", "i(i(a))=i(e)"), laws("e=i(e)", "i(e)=i(i(e))", "i(e)=i(e)")},
		{"three rules, turned", laws("i(i(a))=i(e)", "i(a)=e", "a=e"), laws("i(e)=i(e)", "i(e)=i(i(e))", "e=i(e)")},
		{"three at one root, row by row", laws("a=e", "a=i(e)", "a=i(i(e))"), laws("e=i(e)", "e=i(i(e))", "i(e)=e", "i(e)=i(i(e))", "i(i(e))=e", "i(i(e))=i(e)")},
	} {
		mustBeEquations(t, "AllPeaks: "+c.what, impl.AllPeaks(s, c.rules), impl.EquationsResult{List: c.want})
		checkPeaks(t, s, documentOrder, c.rules, 0, 1, 200)
	}
	for _, rules := range [][]impl.Equation{groupLaws(), laws("m(m(A,B),C)=m(A,m(B,C))", "m(A,B)=m(B,A)"), laws("m(A,A)=A", "m(A,m(A,B))=m(A,B)", "m(i(A),A)=e")} {
		checkPeaks(t, s, invertHighest, rules, edgeFuels...)
	}
}

// ladders are rules of so many i each that become nothing: so many rules with so many i in all have as many peaks as the first number times what is 1 less than the second one.
func ladders(heights ...int) []impl.Equation {
	rules := []impl.Equation{}
	for _, height := range heights {
		rules = append(rules, equation(append(slices.Repeat([]int64{1}, height), -1), read("A")))
	}
	return rules
}

func TestAllPeaksTellsMaxPeaksAndNoMore(t *testing.T) {
	s, twice := exampleSignature(), laws("a=e", "a=e", "a=e")
	for _, c := range []struct {
		what  string
		rules []impl.Equation
		peaks int
	}{
		{"some fewer", ladders(23, 1, 1, 16), 160},
		{"one fewer", append(ladders(23, 23, 21), laws("m(m(A,B),C)=A")...), 199},
		{"MaxPeaks, of four rules", ladders(12, 13, 13, 13), 200},
		{"MaxPeaks, of eight rules", ladders(1, 1, 1, 1, 1, 7, 7, 7), 200},
		{"MaxPeaks, of five rules", ladders(1, 10, 10, 10, 10), 200},
		{"one more, of three rules", ladders(23, 23, 22), 201},
		{"one more, the last one of the last rule", append(ladders(1, 9, 10, 10, 10), twice...), 201},
		{"one more, turned", append(slices.Clone(twice), ladders(10, 10, 10, 9, 1)...), 201},
		{"one more, of its own peaks with itself", append(ladders(12, 13, 13, 13), laws("m(m(A,B),C)=A")...), 201},
		{"some more", ladders(23, 23, 23), 204},
		{"many more", slices.Repeat(ladders(23), 12), 3300},
		{"many more, of small rules", slices.Repeat(ladders(2), 12), 276},
		{"a rule without a peak behind just MaxPeaks", append(ladders(12, 13, 13, 13), laws("a=e")...), 200},
		{"a rule without a peak ahead of just MaxPeaks", append(laws("a=e"), ladders(12, 13, 13, 13)...), 200},
	} {
		count := 0
		for first := range c.rules {
			for second := range c.rules {
				count += len(impl.PeaksOf(s, c.rules[first], c.rules[second], first == second).List)
			}
		}
		mustBe(t, "how many peaks there are: "+c.what, count, c.peaks)
		told := impl.AllPeaks(s, c.rules)
		want := int64(impl.OK)
		if c.peaks > 200 {
			want, count = impl.ErrMany, 0
		}
		mustBe(t, "the code of AllPeaks: "+c.what, told.Code, want)
		mustBe(t, "how many peaks AllPeaks tells: "+c.what, len(told.List), count)
		mustBe(t, "the code of UnjoinedOf: "+c.what, impl.UnjoinedOf(s, c.rules, 200).Code, want)
		checkPeaks(t, s, documentOrder, c.rules, 0, 200)
	}
}

func TestAllPeaksTellsTheCodeOfAPeak(t *testing.T) {
	s := exampleSignature()
	great := []impl.Equation{law("a=i(e)"), equation(chain(24), read("e"))}
	for _, rules := range [][]impl.Equation{
		great, {great[1], great[0]}, append(laws("i(i(A))=A", "e=e"), great...), append(slices.Clone(great), laws("i(i(A))=A", "e=e")...),
		laws("m(i(A),m(B,m(C,m(D,m(E,F)))))=e", "i(m(A,B))=m(B,A)"), laws("i(m(A,B))=m(B,A)", "m(i(A),m(B,m(C,m(D,m(E,F)))))=e"),
	} {
		mustBeEquations(t, fmt.Sprint("AllPeaks of ", rules), impl.AllPeaks(s, rules), impl.EquationsResult{Code: impl.ErrMany})
		for _, fuel := range []int64{0, 200} {
			mustBeEquations(t, fmt.Sprint("UnjoinedOf ", rules), impl.UnjoinedOf(s, rules, fuel), impl.EquationsResult{Code: impl.ErrMany})
		}
		for _, order := range permutations(4) {
			mustBe(t, fmt.Sprint("IsConfluent of ", rules, " by ", order), impl.IsConfluent(s, order, rules), false)
		}
		checkPeaks(t, s, documentOrder, rules, 0, 200)
	}
	mustBe(t, "IsDecreasing of rules with a peak that is too great", impl.IsDecreasing(s, []int64{0, 1, 2, 3}, great), true)
}

func TestUnjoinedOfKnownValues(t *testing.T) {
	s := exampleSignature()
	list := func(texts ...string) impl.EquationsResult { return impl.EquationsResult{List: laws(texts...)} }
	code := func(code int64) impl.EquationsResult { return impl.EquationsResult{Code: code} }
	grows, ends := laws("a=i(a)", "a=e"), laws("a=e", "i(a)=e", "i(e)=e")
	for _, c := range []struct {
		what  string
		rules []impl.Equation
		fuel  int64
		want  impl.EquationsResult
	}{
		{"no rules, the least number", nil, math.MinInt64, code(impl.ErrRange)},
		{"no rules, fuel -1", nil, -1, code(impl.ErrRange)},
		{"no rules, fuel 0", nil, 0, list()},
		{"no rules, MaxFuel", nil, 200, list()},
		{"no rules, one more", nil, 201, code(impl.ErrRange)},
		{"no rules, the greatest number", nil, math.MaxInt64, code(impl.ErrRange)},
		{"none is joined", laws("m(e,A)=A", "m(e,e)=a"), 9, list("e=a", "a=e")},
		{"none is joined, fuel -1", laws("m(e,A)=A", "m(e,e)=a"), -1, code(impl.ErrRange)},
		{"none is joined, fuel 0", laws("m(e,A)=A", "m(e,e)=a"), 0, list("e=a", "a=e")},
		{"none is joined, MaxFuel", laws("m(e,A)=A", "m(e,e)=a"), 200, list("e=a", "a=e")},
		{"none is joined, one more", laws("m(e,A)=A", "m(e,e)=a"), 201, code(impl.ErrRange)},
		{"all are joined, without a step", laws("i(i(A))=A"), 0, list()},
		{"all are joined, MaxFuel", laws("i(i(A))=A"), 200, list()},
		{"all are joined, one more than MaxFuel", laws("i(i(A))=A"), 201, code(impl.ErrRange)},
		{"some are joined", laws("i(i(A))=A", "m(e,A)=A", "m(A,e)=i(A)"), 9, list("e=i(e)", "i(e)=e")},
		{"some are joined, the first ones not", laws("m(e,A)=A", "m(A,e)=i(A)", "i(i(A))=A"), 9, list("e=i(e)", "i(e)=e")},
		{"one alone is not joined", laws("a=e", "i(a)=a"), 9, list("a=i(e)")},
		{"the same one twice", laws("i(i(i(A)))=e", "m(A,B)=A"), 9, list("e=i(e)", "e=i(i(e))")},
		{"all are joined by one step each", ends, 1, list()},
		{"too little fuel for the first one", ends, 0, code(impl.ErrFuel)},
		{"too little fuel behind one that is not joined", laws("m(e,A)=A", "m(e,e)=a", "i(i(e))=e", "i(e)=e"), 0, code(impl.ErrFuel)},
		{"enough fuel behind one that is not joined", laws("m(e,A)=A", "m(e,e)=a", "i(i(e))=e", "i(e)=e"), 1, list("e=a", "a=e")},
		{"in groups", groupLaws(), 200, list()},
		{"in groups, without fuel", groupLaws(), 0, code(impl.ErrFuel)},
		{"a term that grows, without fuel", grows, 0, code(impl.ErrFuel)},
		{"a term that grows, some fuel", grows, 22, code(impl.ErrFuel)},
		{"a term that grows, too much fuel", grows, 200, code(impl.ErrMany)},
		{"a term that grows, one more than MaxFuel", grows, 201, code(impl.ErrRange)},
		{"too little fuel ahead of a term that grows too great", laws("m(e,e)=m(e,e)", "m(e,A)=A", "i(i(A))=m(m(m(A,A),m(A,A)),m(m(A,A),m(A,A)))"), 30, code(impl.ErrFuel)},
	} {
		mustBeEquations(t, "UnjoinedOf: "+c.what, impl.UnjoinedOf(s, c.rules, c.fuel), c.want)
		mustBeEquations(t, "what is wanted: "+c.what, wantUnjoined(s, c.rules, c.fuel), c.want)
		checkPeaks(t, s, lowConstants, c.rules, edgeFuels...)
	}
}

// longWay are the swaps and two rules more, by which one term becomes a word that is so many steps away from its sorted letters, and these at once. That term has more of the highest letter than any of the words: so it is above them all, and stands in none.
func longWay(steps int) []impl.Equation {
	whole := []int64{5, 5, 5, 5, 5, 5, 0}
	sorted := slices.Sorted(slices.Values(wordOf(steps)[:23]))
	return append(swaps(), equation(whole, wordOf(steps)), equation(whole, append(sorted, 0)))
}

func TestUnjoinedOfGoesAsFarAsItsFuel(t *testing.T) {
	s, order := letters(), []int64{0, 1, 2, 3, 4, 5}
	for _, steps := range []int64{20, 199, 200, 201, 211} {
		rules := longWay(int(steps))
		mustBe(t, "IsDecreasing of the long way", impl.IsDecreasing(s, order, rules), true)
		mustBe(t, fmt.Sprint("IsConfluent of a way of ", steps), impl.IsConfluent(s, order, rules), steps <= 200)
		for _, fuel := range []int64{-1, 19, 20, steps - 1, steps, 199, 200, 201} {
			want := impl.EquationsResult{}
			switch {
			case fuel < 0 || fuel > 200:
				want.Code = impl.ErrRange
			case fuel < steps:
				want.Code = impl.ErrFuel
			}
			mustBeEquations(t, fmt.Sprint("UnjoinedOf, with ", fuel, ", of a way of ", steps), impl.UnjoinedOf(s, rules, fuel), want)
		}
	}
}

func TestIsConfluentKnownValues(t *testing.T) {
	s := exampleSignature()
	for _, c := range []struct {
		what  string
		order []int64
		rules []impl.Equation
		want  bool
	}{
		{"nil", documentOrder, nil, true},
		{"no rules", invertHighest, laws(), true},
		{"no rules, and no precedence", nil, nil, false},
		{"no rules, and a precedence with a fault", []int64{0, 1, 2, 2}, nil, false},
		{"one rule without a peak", documentOrder, laws("a=e"), true},
		{"one rule without a peak that does not fall by that precedence", []int64{3, 0, 1, 2}, laws("a=e"), false},
		{"one rule with a peak that is joined", documentOrder, laws("i(i(A))=A"), true},
		{"one rule with a peak that is not joined", documentOrder, laws("i(i(A))=e"), false},
		{"brackets", documentOrder, laws("m(m(A,B),C)=m(A,m(B,C))"), true},
		{"brackets, and a peak that is not joined", documentOrder, laws("m(m(A,B),C)=m(A,m(B,C))", "m(A,A)=A"), false},
		{"the document's completion", documentOrder, laws("i(e)=e", "i(i(A))=A"), true},
		{"groups", invertHighest, groupLaws(), true},
		{"groups, by a precedence by which one rule does not fall", documentOrder, groupLaws(), false},
		{"groups, without one rule that joins peaks", invertHighest, groupLaws()[:9], false},
		{"groups, the three that all others come from", invertHighest, laws("m(e,A)=A", "m(i(A),A)=e", "m(m(A,B),C)=m(A,m(B,C))"), false},
		{"peaks that are joined, but a rule that turns for ever", documentOrder, laws("m(A,B)=m(B,A)"), false},
		{"peaks that are joined, but a rule with the same sides", documentOrder, laws("i(A)=i(A)"), false},
		{"peaks that are joined, but a rule that rises", documentOrder, laws("e=a"), false},
		{"peaks that are joined, but the last rule does not fall", documentOrder, laws("i(i(A))=A", "i(e)=e", "e=a"), false},
		{"a rule that falls on every peak's way, one of two alone", documentOrder, laws("m(e,A)=A", "m(e,e)=a"), false},
		{"two rules with peaks that are joined", documentOrder, laws("m(e,A)=A", "m(A,e)=A"), true},
		{"two rules with peaks that are not joined", documentOrder, laws("m(e,A)=A", "m(A,e)=i(A)"), false},
		{"two rules whose peak is at the root of one alone", documentOrder, laws("a=e", "a=i(e)"), false},
		{"two rules that become one by their variables", documentOrder, laws("m(A,e)=i(A)", "m(e,A)=i(A)"), true},
		{"the same variables in both, apart they do not become one", documentOrder, laws("m(A,i(A))=e", "i(i(A))=A"), false},
		{"no rule: its Left is a variable", documentOrder, laws("A=e"), false},
		{"no rule: its Right has one variable more", documentOrder, laws("i(A)=B"), false},
		{"MaxEquations", documentOrder, slices.Repeat(laws("a=e"), 12), true},
		{"one more", documentOrder, slices.Repeat(laws("a=e"), 13), false},
		{"just MaxPeaks, all joined", documentOrder, ladders(1, 1, 1, 1, 1, 7, 7, 7), true},
		{"one more, all joined", documentOrder, append(ladders(1, 9, 10, 10, 10), laws("a=e", "a=e", "a=e")...), false},
		{"a peak whose sides grow too great", []int64{0, 2, 1, 3}, laws("i(A)=m(A,A)", "a=i(i(i(i(i(e)))))", "a=e"), false},
	} {
		mustBe(t, "IsConfluent: "+c.what, impl.IsConfluent(s, c.order, c.rules), c.want)
		for _, order := range append(permutations(4), nil, []int64{0, 1, 2}, []int64{0, 1, 2, 4}, []int64{0, 1, 2, 3, 3}) {
			mustBe(t, fmt.Sprint("IsConfluent by ", order, ": ", c.what), impl.IsConfluent(s, order, c.rules), wantConfluent(s, order, c.rules))
		}
	}
	mustBe(t, "IsConfluent in no signature", impl.IsConfluent(impl.Signature{}, nil, nil), false)
	mustBe(t, "IsConfluent without a constant", impl.IsConfluent(noConstants(), []int64{0}, nil), false)
	mustBe(t, "IsConfluent of swaps", impl.IsConfluent(letters(), []int64{0, 1, 2, 3, 4, 5}, swaps()), true)
	mustBe(t, "IsConfluent of swaps without one", impl.IsConfluent(letters(), []int64{0, 1, 2, 3, 4, 5}, slices.Delete(swaps(), 1, 2)), false)
}

func TestPeaksAskCodesInTheirOrder(t *testing.T) {
	s, taken, good := exampleSignature(), signature(impl.Symbol{Name: "a"}, impl.Symbol{Name: "a"}), law("i(i(A))=A")
	for _, c := range []struct {
		what         string
		s            impl.Signature
		outer, inner impl.Equation
		place        int64
		code         int64
	}{
		{"the signature ahead of all", taken, impl.Equation{}, impl.Equation{}, -1, impl.ErrTaken},
		{"the signature ahead of the place", taken, good, good, -1, impl.ErrTaken},
		{"a signature without a constant", noConstants(), impl.Equation{}, impl.Equation{}, -1, impl.ErrNone},
		{"no symbols at all", impl.Signature{}, good, good, 0, impl.ErrMany},
		{"no outer one", s, impl.Equation{}, good, -1, impl.ErrMany},
		{"no inner one", s, good, impl.Equation{}, -1, impl.ErrMany},
		{"the outer one's node ahead of no inner one", s, law("i(G)=e"), impl.Equation{}, -1, impl.ErrRange},
		{"no outer one ahead of the inner one's node", s, impl.Equation{}, law("i(G)=e"), -1, impl.ErrMany},
		{"the inner one's node ahead of the outer one's form", s, law("A=e"), law("i(G)=G"), -1, impl.ErrRange},
		{"no inner one ahead of the outer one's form", s, law("A=e"), impl.Equation{}, -1, impl.ErrMany},
		{"the outer one's form ahead of the place", s, law("A=e"), good, -1, impl.ErrForm},
		{"the inner one's form ahead of the place", s, good, law("A=e"), 9, impl.ErrForm},
		{"the inner one's Right ahead of the place", s, good, law("i(A)=B"), 9, impl.ErrForm},
		{"the outer one's Right ahead of the place", s, law("i(A)=B"), good, 9, impl.ErrForm},
		{"the inner one's node ahead of the place", s, good, law("i(G)=G"), 9, impl.ErrRange},
		{"half a side of the inner one ahead of the place", s, good, equation([]int64{2, 0}, read("e")), 9, impl.ErrForm},
	} {
		fault := []impl.Equation{c.outer, c.inner}
		for _, place := range []int64{c.place, -1, 0, 1, 2, 3} {
			mustBe(t, "PeakOf: "+c.what, impl.PeakOf(c.s, c.outer, c.inner, place), impl.EquationResult{Code: c.code})
		}
		for _, same := range []bool{false, true} {
			mustBe(t, "PeaksOf: "+c.what, impl.PeaksOf(c.s, c.outer, c.inner, same), impl.EquationsResult{Code: c.code})
		}
		mustBe(t, "AllPeaks: "+c.what, impl.AllPeaks(c.s, fault), impl.EquationsResult{Code: c.code})
		for _, fuel := range edgeFuels {
			mustBe(t, "UnjoinedOf: "+c.what, impl.UnjoinedOf(c.s, fault, fuel), impl.EquationsResult{Code: c.code})
		}
		mustBe(t, "IsConfluent: "+c.what, impl.IsConfluent(c.s, documentOrder, fault), false)
		checkPeaksOfTwo(t, c.s, c.outer, c.inner)
		checkPeaks(t, c.s, documentOrder, fault, edgeFuels...)
	}
	mustBe(t, "a place that is none ahead of what stands there", impl.PeakOf(s, good, law("m(A,B)=A"), 3).Code, int64(impl.ErrRange))
	mustBe(t, "a variable ahead of what does not become one term", impl.PeakOf(s, good, law("m(A,B)=A"), 2).Code, int64(impl.ErrForm))
	many := slices.Repeat(laws("i(i(A))=A"), 12)
	for _, fuel := range []int64{math.MinInt64, -1, 201, math.MaxInt64} {
		mustBe(t, "UnjoinedOf: the fuel ahead of too many peaks", impl.UnjoinedOf(s, many, fuel).Code, int64(impl.ErrRange))
		mustBe(t, "UnjoinedOf: too many rules ahead of the fuel", impl.UnjoinedOf(s, append(laws("A=e"), many...), fuel).Code, int64(impl.ErrMany))
	}
	mustBe(t, "UnjoinedOf: too many peaks ahead of too little fuel", impl.UnjoinedOf(s, append(laws("a=e", "i(a)=e", "i(e)=e"), ladders(23, 23, 23)...), 0).Code, int64(impl.ErrMany))
}

// peakRules are lists of rules, and such as are none.
func peakRules() [][]impl.Equation {
	return slices.Concat(rewritingRules(), [][]impl.Equation{
		laws("m(e,A)=A", "m(e,e)=a"), laws("i(i(A))=A", "i(e)=e"), laws("i(i(i(A)))=e", "a=e"), laws("m(m(A,B),C)=m(A,m(B,C))", "m(A,A)=A"), ladders(1, 10, 10, 10, 10), ladders(23, 23, 22),
	})
}

func TestPeaksOfWhateverLists(t *testing.T) {
	for i, s := range fewSignatures() {
		for j, rules := range peakRules() {
			checkPeaks(t, s, someOrders[(i+j)%len(someOrders)], rules, edgeFuels[(i+j)%len(edgeFuels)], 3)
		}
		for j, left := range someTerms() {
			for k, right := range someTerms() {
				other := equation(someTerms()[(3*j+k)%len(someTerms())], []int64{0})
				checkPeaksOfTwo(t, s, equation(left, right), other)
				checkPeaksOfTwo(t, s, other, equation(left, right))
			}
		}
	}
	for _, s := range allSignatures() {
		checkPeaksOfTwo(t, s, equation([]int64{0}, []int64{0}), equation([]int64{0}, []int64{0}))
		checkPeaks(t, s, []int64{0}, []impl.Equation{equation([]int64{0}, []int64{0})}, 0)
	}
	for i, left := range longLists() {
		e, other := equation(left, []int64{0}), equation(longLists()[(i+1)%len(longLists())], []int64{0})
		checkPeaksOfTwo(t, exampleSignature(), e, law("i(A)=A"))
		checkPeaksOfTwo(t, exampleSignature(), law("m(i(A),a)=A"), e)
		checkPeaksOfTwo(t, exampleSignature(), e, other)
		checkPeaks(t, exampleSignature(), documentOrder, []impl.Equation{e, other, law("i(A)=A")}, 0, 24)
	}
	for _, node := range edgeNodes {
		checkPeaksOfTwo(t, exampleSignature(), equation([]int64{1, node}, []int64{node}), law("i(A)=A"))
		checkPeaksOfTwo(t, exampleSignature(), law("m(i(A),A)=A"), equation([]int64{1, node}, []int64{node}))
		checkPeaksOfTwo(t, exampleSignature(), equation([]int64{node}, []int64{0}), law("a=e"))
		mustBe(t, fmt.Sprint("PeakOf at ", node), impl.PeakOf(exampleSignature(), law("i(i(a))=e"), law("a=e"), node), wantPeak(exampleSignature(), law("i(i(a))=e"), law("a=e"), node))
	}
}

// smallRules are all rules whose sides have few nodes and two variables.
func smallRules(leftSize int, rightSize int) []impl.Equation {
	rules := []impl.Equation{}
	for _, left := range ruleTerms(leftSize, -1, -2) {
		for _, right := range ruleTerms(rightSize, -1, -2) {
			if isKnownRule(equation(left, right)) {
				rules = append(rules, equation(left, right))
			}
		}
	}
	return rules
}

func TestPeaksOfAllSmallRules(t *testing.T) {
	s, rules := exampleSignature(), smallRules(3, 1)
	for _, outer := range rules {
		for _, inner := range rules {
			checkPeaksOfTwo(t, s, outer, inner)
		}
	}
	greater := smallRules(4, 2)
	for i, outer := range greater {
		for j := range 3 {
			checkPeaksOfTwo(t, s, outer, greater[(7*i+11*j+3)%len(greater)])
		}
	}
	few := smallRules(2, 2)
	for i, first := range few {
		for j, second := range few {
			checkPeaks(t, s, documentOrder, []impl.Equation{first, second}, int64((i+j)%4))
		}
	}
}

func TestPeaksInEverySignature(t *testing.T) {
	for _, s := range goodSignatures() {
		terms := slices.Concat(termsOver(s, []int64{-1}, 1), termsOver(s, []int64{-1}, 2), termsOver(s, []int64{-1}, 3))
		terms = terms[:min(len(terms), 20)]
		order := permutations(len(s.Symbols))[0]
		for i, left := range terms {
			for j, other := range terms {
				outer, inner := equation(left, terms[(7*i+3)%len(terms)]), equation(other, terms[(3*i+j)%len(terms)])
				checkPeaksOfTwo(t, s, outer, inner)
				checkPeaks(t, s, order, []impl.Equation{outer, inner}, int64(j%4))
			}
		}
	}
}

func TestPeaksOfManyRules(t *testing.T) {
	s, numbers, codes, unjoined := crowd(), numbersByRule(121), map[int64]int{}, map[int64]int{}
	for range 1500 {
		outer, inner := numbers.rule(1+numbers.below(20), 1+numbers.below(20)), numbers.rule(2+numbers.below(8), 1+numbers.below(12))
		if !isKnownRule(outer) || !isKnownRule(inner) {
			continue
		}
		// What the outer one holds of the inner one's Left makes them fit more often.
		if at := int64(numbers.below(len(outer.Left))); at > 0 && numbers.below(2) == 0 {
			if put := wantReplaced(s, outer.Left, at, inner.Left); put.Code == impl.OK && isKnownRule(equation(put.Term, outer.Right)) {
				outer.Left = put.Term
			}
		}
		checkPeaksOfTwo(t, s, outer, inner)
		for place := range int64(len(outer.Left)) {
			codes[impl.PeakOf(s, outer, inner, place).Code]++
		}
	}
	for range 1200 {
		rules := numbers.rules(1 + numbers.below(5))
		checkPeaks(t, s, permutations(6)[numbers.below(720)], rules, int64(numbers.below(9)))
		unjoined[impl.UnjoinedOf(s, rules, 8).Code]++
	}
	for _, code := range []int64{impl.OK, impl.ErrNone, impl.ErrMany, impl.ErrForm} {
		if codes[code] < 200 {
			t.Errorf("PeakOf told the codes %v", codes)
		}
	}
	for _, code := range []int64{impl.OK, impl.ErrFuel} {
		if unjoined[code] < 100 {
			t.Errorf("UnjoinedOf told the codes %v", unjoined)
		}
	}
}

// endsOf goes all ways of rewriting from that term on, and tells the terms at which they end; or false, where one of them leaves MaxNodes, or where there are too many terms to go through.
func endsOf(s impl.Signature, rules []impl.Equation, term []int64) ([][]int64, bool) {
	seen, waiting, ends := map[string]bool{fmt.Sprint(term): true}, [][]int64{term}, [][]int64{}
	for len(waiting) > 0 {
		next := waiting[0]
		waiting = waiting[1:]
		steps, whole := stepsOf(s, rules, next)
		if !whole || len(seen) > 400 {
			return nil, false
		}
		if len(steps) == 0 {
			ends = append(ends, next)
		}
		for _, step := range steps {
			if !seen[fmt.Sprint(step)] {
				seen[fmt.Sprint(step)] = true
				waiting = append(waiting, step)
			}
		}
	}
	return ends, true
}

// stepsOf tells what all rules make of that term at all places, or false where that is too great once.
func stepsOf(s impl.Signature, rules []impl.Equation, term []int64) ([][]int64, bool) {
	steps := [][]int64{}
	for number := range rules {
		for place := range term {
			step := impl.RewriteAt(s, rules, int64(number), int64(place), term)
			switch step.Code {
			case impl.OK:
				steps = append(steps, step.Term)
			case impl.ErrMany:
				return nil, false
			}
		}
	}
	return steps, true
}

// mustEndAtOneTerm tells whether it could go all ways, and in how many steps the told one ends.
func mustEndAtOneTerm(t *testing.T, s impl.Signature, rules []impl.Equation, term []int64) (int64, bool) {
	t.Helper()
	ends, whole := endsOf(s, rules, term)
	if !whole {
		return 0, false
	}
	who := fmt.Sprintf("of %v by %v", term, rules)
	if len(ends) != 1 {
		t.Errorf("the ways of rewriting %s end at %v", who, ends)
		return 0, false
	}
	told := impl.NormalForm(s, rules, term, 200)
	if told.Code == impl.ErrFuel {
		return 0, false
	}
	mustBe(t, "NormalForm "+who, told, impl.NormalResult{Term: ends[0], Steps: told.Steps})
	steps, _ := stepsOf(s, rules, term)
	for _, step := range steps {
		if joined := impl.AreJoined(s, rules, term, step, 200); joined.Code != impl.ErrFuel {
			mustBe(t, fmt.Sprint("AreJoined with ", step, " ", who), joined, impl.IntResult{Value: 1})
		}
	}
	return told.Steps, true
}

// overlapsOf are the terms in which two of the rules fit, one of them at the root and the other one inside; those that have not too many nodes.
func overlapsOf(s impl.Signature, rules []impl.Equation) [][]int64 {
	terms := [][]int64{}
	for _, outer := range rules {
		for _, inner := range rules {
			for place := range int64(len(outer.Left)) {
				if both, code := wantOverlap(s, outer, inner, place); code == impl.OK && len(nodesOf(both.whole)) <= 24 {
					terms = append(terms, nodesOf(both.whole))
				}
			}
		}
	}
	return terms
}

func TestP10ByRulesThatFallAndWhosePeaksAreJoinedAllWaysEndAtOneTerm(t *testing.T) {
	s, numbers, asked := exampleSignature(), numbersByRule(131), 0
	for _, c := range []struct {
		order []int64
		rules []impl.Equation
	}{
		{invertHighest, groupLaws()}, {documentOrder, laws("i(e)=e", "i(i(A))=A")}, {documentOrder, laws("m(e,A)=A", "m(A,e)=A")}, {documentOrder, laws("m(m(A,B),C)=m(A,m(B,C))")},
		{documentOrder, laws("a=e", "i(e)=e", "m(e,e)=i(e)")}, {documentOrder, laws("m(A,A)=A")}, {documentOrder, laws("m(A,B)=i(A)", "i(A)=e")}, {documentOrder, ladders(3, 6, 9)},
		{documentOrder, laws("i(i(A))=i(A)", "m(A,m(A,B))=m(A,B)")}, {invertHighest, laws("i(m(A,B))=m(i(B),i(A))", "i(i(A))=A", "m(m(A,B),C)=m(A,m(B,C))")},
	} {
		mustBe(t, fmt.Sprint("IsConfluent of ", c.rules), impl.IsConfluent(s, c.order, c.rules), true)
		terms := slices.Concat(overlapsOf(s, c.rules), ruleTerms(4, -1, -2))
		for range 250 {
			terms = append(terms, numbers.term(1+numbers.below(16), 3))
		}
		for _, term := range terms {
			if steps, whole := mustEndAtOneTerm(t, s, c.rules, term); whole && steps > 1 {
				asked++
			}
		}
	}
	if asked < 800 {
		t.Errorf("only %d terms were rewritten in more ways than one", asked)
	}
}

func TestP10WhateverRulesFallAndHavePeaksThatAreJoined(t *testing.T) {
	s, numbers, orders, confluent, crossed := crowd(), numbersByRule(141), permutations(6), 0, 0
	for range 2500 {
		order := orders[numbers.below(len(orders))]
		rules := numbers.fallingRules(s, order, 1+numbers.below(4))
		if !impl.IsConfluent(s, order, rules) {
			continue
		}
		confluent++
		terms := overlapsOf(s, rules)
		for range 12 {
			terms = append(terms, numbers.crowdTerm(1+numbers.below(12), 1+numbers.below(2)))
		}
		for _, term := range terms {
			if steps, whole := mustEndAtOneTerm(t, s, rules, term); whole && steps > 1 {
				crossed++
			}
		}
	}
	if confluent < 300 || crossed < 1000 {
		t.Errorf("only %d lists of rules were confluent, with %d terms", confluent, crossed)
	}
}

// mustHaveTwoEnds tells whether there is a peak there that is not joined, of which all ways could be gone.
func mustHaveTwoEnds(t *testing.T, s impl.Signature, rules []impl.Equation, outer impl.Equation, inner impl.Equation, place int64) bool {
	t.Helper()
	both, code := wantOverlap(s, outer, inner, place)
	peak := impl.PeakOf(s, outer, inner, place)
	if code != impl.OK || peak.Code != impl.OK || len(nodesOf(both.whole)) > 24 {
		return false
	}
	joined := impl.AreJoined(s, rules, peak.Equation.Left, peak.Equation.Right, 200)
	ends, all := endsOf(s, rules, nodesOf(both.whole))
	if joined != (impl.IntResult{}) || !all {
		return false
	}
	if len(ends) < 2 {
		t.Errorf("the peak %v of %v and %v at %d is not joined by %v, but all ways from %v end at %v", peak.Equation, outer, inner, place, rules, nodesOf(both.whole), ends)
	}
	return true
}

func TestP10APeakThatIsNotJoinedHasAWayToAnotherEnd(t *testing.T) {
	s, numbers, orders, met := crowd(), numbersByRule(151), permutations(6), 0
	for range 1500 {
		order := orders[numbers.below(len(orders))]
		rules := numbers.fallingRules(s, order, 1+numbers.below(3))
		for _, outer := range rules {
			for _, inner := range rules {
				for place := range int64(len(outer.Left)) {
					if mustHaveTwoEnds(t, s, rules, outer, inner, place) {
						met++
						mustBe(t, fmt.Sprint("IsConfluent of ", rules), impl.IsConfluent(s, order, rules), false)
					}
				}
			}
		}
	}
	if met < 300 {
		t.Errorf("only %d peaks that are not joined were met", met)
	}
}

// mustComeFromOneTerm tells whether there is a peak of both rules there, and a term for it that is not too great.
func mustComeFromOneTerm(t *testing.T, s impl.Signature, outer impl.Equation, inner impl.Equation, place int64) bool {
	t.Helper()
	both, code := wantOverlap(s, outer, inner, place)
	peak := impl.PeakOf(s, outer, inner, place)
	if code != impl.OK || peak.Code != impl.OK || len(nodesOf(both.whole)) > 24 {
		return false
	}
	rules, term := []impl.Equation{outer, inner}, nodesOf(both.whole)
	left, right := impl.RewriteAt(s, rules, 0, 0, term), impl.RewriteAt(s, rules, 1, both.place, term)
	mustBe(t, fmt.Sprintf("both ways from %v by %v at its root and at %d", term, rules, both.place), impl.PlainEquation(s, equation(left.Term, right.Term)), peak)
	mustBe(t, fmt.Sprint("PlainEquation of the peak ", peak.Equation), impl.PlainEquation(s, peak.Equation), peak)
	return true
}

func TestP10BothSidesOfAPeakComeFromOneTerm(t *testing.T) {
	s, numbers, met := crowd(), numbersByRule(161), 0
	for range 2500 {
		outer, inner := numbers.rule(2+numbers.below(9), 1+numbers.below(9)), numbers.rule(2+numbers.below(5), 1+numbers.below(5))
		for place := range int64(len(outer.Left)) {
			if mustComeFromOneTerm(t, s, outer, inner, place) {
				met++
			}
		}
	}
	for _, outer := range groupLaws() {
		for _, inner := range groupLaws() {
			for place := range int64(len(outer.Left)) {
				if mustComeFromOneTerm(t, exampleSignature(), outer, inner, place) {
					met++
				}
			}
		}
	}
	if met < 1000 {
		t.Errorf("only %d peaks were met", met)
	}
}

// peakAnswers calls every function of the chapter with whatever of the arguments it takes.
func peakAnswers(s impl.Signature, order []int64, rules []impl.Equation, outer impl.Equation, inner impl.Equation, number int64) []any {
	return []any{
		impl.PeakOf(s, outer, inner, number), impl.PeakOf(s, outer, inner, 0), impl.PeaksOf(s, outer, inner, true), impl.PeaksOf(s, outer, inner, false),
		impl.AllPeaks(s, rules), impl.UnjoinedOf(s, rules, number), impl.UnjoinedOf(s, rules, 20), impl.IsConfluent(s, order, rules),
	}
}

func somePairs() []impl.Equation {
	return slices.Concat(groupLaws()[:4], groupLaws()[8:], laws("a=e", "e=a", "i(i(A))=A", "i(i(i(A)))=e", "A=e", "i(G)=G", "i(A)=B"), []impl.Equation{{}, equation(chain(24), []int64{0}), equation(chain(23), fullComb()), equation([]int64{0}, nil)})
}

func TestP1PeakAnswersHangOnTheArgumentsAlone(t *testing.T) {
	all := peakRules()
	for i, s := range fewSignatures() {
		for j, outer := range somePairs() {
			for k, inner := range somePairs() {
				order, rules, number := someOrders[(i+3*j+5*k)%len(someOrders)], all[(i+3*j+5*k)%len(all)], edgeFuels[(i+j+7*k)%len(edgeFuels)]
				first := peakAnswers(s, order, rules, outer, inner, number)
				peakAnswers(exampleSignature(), documentOrder, laws("m(e,A)=A", "m(e,e)=a"), law("m(e,A)=A"), law("e=a"), 1)
				mustBe(t, "the same call again", peakAnswers(s, order, rules, outer, inner, number), first)
				pair := guardRules([]impl.Equation{outer, inner}).list
				again := peakAnswers(signature(guardSymbols(s.Symbols).list...), guardNumbers(order).list, guardRules(rules).list, pair[0], pair[1], number)
				mustBe(t, "the same call with other memory", again, first)
			}
		}
	}
}

func TestP1EveryPlaceAndFuelOfPeaksIsAnswered(t *testing.T) {
	for _, s := range fewSignatures() {
		for i, rules := range peakRules() {
			for j, number := range slices.Concat(edgeNodes, edgeFuels) {
				outer, inner := somePairs()[(i+j)%len(somePairs())], somePairs()[(i+3*j)%len(somePairs())]
				first := []any{impl.PeakOf(s, outer, inner, number), impl.UnjoinedOf(s, rules, number)}
				mustBe(t, "the same call again", []any{impl.PeakOf(s, outer, inner, number), impl.UnjoinedOf(s, rules, number)}, first)
			}
		}
	}
}

func TestP1PeaksOfGreatRulesEnd(t *testing.T) {
	s, all := exampleSignature(), [][]impl.Equation{slices.Repeat(ladders(23), 12), longWay(200)}
	bushy := equation(varied(-1, -2, -3, -4, -5, -6, -1, -2, -3, -4, -5, -6), read("A"))
	turned := equation(slices.Concat(slices.Repeat([]int64{2, -1}, 11), []int64{-2}), read("B"))
	all = append(all, slices.Repeat([]impl.Equation{bushy}, 12), slices.Repeat([]impl.Equation{turned}, 12), slices.Repeat([]impl.Equation{bushy, turned}, 6))
	all = append(all, slices.Concat(groupLaws(), laws("m(m(m(m(A,B),C),D),E)=A", "m(A,m(B,m(C,m(D,m(E,F)))))=F")))
	mustEndSoon(t, "asking for the peaks of great rules", func() {
		for _, rules := range all {
			for _, order := range [][]int64{invertHighest, {0, 1, 2, 3, 4, 5}} {
				peakAnswers(s, order, rules, rules[0], rules[len(rules)-1], 200)
				peakAnswers(letters(), order, rules, rules[len(rules)-1], rules[0], 200)
			}
		}
	})
}

func TestP1NilAndEmptyPeaksAreTheSame(t *testing.T) {
	none, good := []int64{}, law("m(e,A)=A")
	for _, s := range fewSignatures() {
		for _, number := range edgeFuels {
			mustBe(t, "empty lists", peakAnswers(s, none, []impl.Equation{}, equation(none, none), equation(none, none), number), peakAnswers(s, nil, nil, impl.Equation{}, impl.Equation{}, number))
			for _, order := range someOrders {
				mustBe(t, "no rules", peakAnswers(s, order, []impl.Equation{}, good, good, number), peakAnswers(s, order, nil, good, good, number))
				mustBe(t, "an empty right side", peakAnswers(s, order, []impl.Equation{equation([]int64{0}, none)}, equation([]int64{0}, none), good, number), peakAnswers(s, order, []impl.Equation{equation([]int64{0}, nil)}, equation([]int64{0}, nil), good, number))
				mustBe(t, "an empty left side", peakAnswers(s, order, []impl.Equation{equation(none, []int64{0})}, good, equation(none, []int64{0}), number), peakAnswers(s, order, []impl.Equation{equation(nil, []int64{0})}, good, equation(nil, []int64{0}), number))
			}
		}
	}
	mustBe(t, "an empty signature", peakAnswers(signature([]impl.Symbol{}...), nil, nil, good, good, 1), peakAnswers(impl.Signature{}, nil, nil, good, good, 1))
}

func TestP1PeakArgumentsAreNotChanged(t *testing.T) {
	for i, rules := range peakRules() {
		for j, outer := range somePairs() {
			symbols, order, given, pair := guardSymbols(exampleSignature().Symbols), guardNumbers(someOrders[(i+j)%len(someOrders)]), guardRules(rules), guardRules([]impl.Equation{outer, somePairs()[(i+5*j)%len(somePairs())]})
			for _, number := range []int64{0, 1, int64((i + j) % 5), 200} {
				peakAnswers(signature(symbols.list...), order.list, given.list, pair.list[0], pair.list[1], number)
				peakAnswers(signature(symbols.list...), documentOrder, given.list, pair.list[1], pair.list[0], number)
			}
			symbols.mustBeUnchanged(t, "a function of peaks")
			order.mustBeUnchanged(t, "a function of peaks")
			given.mustBeUnchanged(t, "a function of peaks")
			pair.mustBeUnchanged(t, "a function of peaks")
		}
	}
	mustBe(t, "the precedence of the document", documentOrder, []int64{0, 1, 2, 3})
}

// checkNewEquations overwrites each side of an answer by itself, then whole answers, then the arguments, and holds all else against what was asked for.
func checkNewEquations(t *testing.T, who string, want []impl.Equation, ask func() []impl.Equation, given guardedRules) {
	t.Helper()
	wanted := func(got []impl.Equation) {
		t.Helper()
		mustBeEquations(t, who, impl.EquationsResult{List: got}, impl.EquationsResult{List: want})
	}
	kept := ask()
	wanted(kept)
	for place, e := range want {
		checkNewSides(t, who, e, func() impl.Equation { return ask()[place] })
		spoilt := ask()
		overwriteNumbers(spoilt[place].Left)
		overwriteNumbers(spoilt[place].Right)
		spoilt[place] = want[place]
		wanted(spoilt)
	}
	spoilt := ask()
	clear(spoilt[:cap(spoilt)])
	wanted(ask())
	given.mustBeUnchanged(t, "who overwrote the answer of "+who)
	given.overwrite()
	wanted(kept)
}

func TestP1PeaksAreNewMemory(t *testing.T) {
	s := exampleSignature()
	for _, rules := range [][]impl.Equation{
		nil, laws("a=e", "a=e"), laws("i(i(A))=A", "i(e)=e"), laws("m(e,A)=A", "m(e,e)=a"), groupLaws(), laws("m(m(A,B),C)=m(A,m(B,C))", "m(A,A)=A"), laws("a=m(e,e)", "a=i(i(e))", "i(A)=m(A,A)"), ladders(4, 5, 6),
	} {
		given := guardRules(rules)
		checkNewEquations(t, "AllPeaks", wantAllPeaks(s, rules).List, func() []impl.Equation { return impl.AllPeaks(s, given.list).List }, given)
		given = guardRules(rules)
		checkNewEquations(t, "UnjoinedOf", wantUnjoined(s, rules, 20).List, func() []impl.Equation { return impl.UnjoinedOf(s, given.list, 20).List }, given)
		for _, outer := range rules {
			for _, inner := range rules {
				for _, same := range []bool{false, true} {
					pair := guardRules([]impl.Equation{outer, inner})
					checkNewEquations(t, "PeaksOf", wantPeaks(s, outer, inner, same).List, func() []impl.Equation { return impl.PeaksOf(s, pair.list[0], pair.list[1], same).List }, pair)
				}
				for place := range int64(len(outer.Left)) {
					want := wantPeak(s, outer, inner, place)
					if want.Code == impl.OK {
						pair := guardRules([]impl.Equation{outer, inner})
						checkNewSides(t, "PeakOf", want.Equation, func() impl.Equation { return impl.PeakOf(s, pair.list[0], pair.list[1], place).Equation }, pair.sides...)
					}
				}
			}
		}
	}
}

func TestP1PeaksOfListsThatShareMemory(t *testing.T) {
	s := exampleSignature()
	for _, term := range [][]int64{read("i(m(i(A),B))"), read("m(m(A,B),m(B,A))"), read("i(i(i(a)))"), read("m(i(e),i(e))")} {
		for place := range term {
			given := guardNumbers(term)
			part := given.list[place : place+len(wantSubterm(s, term, int64(place)).Term)]
			pairs := []impl.Equation{equation(given.list, part), equation(part, given.list), equation(given.list, given.list), equation(part, part), law("i(A)=A")}
			for _, outer := range pairs {
				for _, inner := range pairs {
					checkPeaksOfTwo(t, s, outer, inner)
					checkPeaks(t, s, documentOrder, []impl.Equation{outer, inner}, 0, 3)
					for at := range int64(len(outer.Left)) {
						peak := impl.PeakOf(s, outer, inner, at)
						overwriteNumbers(peak.Equation.Left)
						overwriteNumbers(peak.Equation.Right)
					}
					for _, told := range []impl.EquationsResult{impl.PeaksOf(s, outer, inner, false), impl.AllPeaks(s, []impl.Equation{outer, inner}), impl.UnjoinedOf(s, []impl.Equation{outer, inner}, 3)} {
						for _, peak := range told.List {
							overwriteNumbers(peak.Left)
							overwriteNumbers(peak.Right)
						}
					}
				}
			}
			given.mustBeUnchanged(t, "a function of peaks of lists that share memory, or who overwrote its answer,")
		}
	}
}

func TestPeaksAreNotLedBehindTheEndBySpareRoom(t *testing.T) {
	s, left, rules := exampleSignature(), read("m(i(A),m(B,e))"), laws("i(i(A))=A", "i(e)=e", "m(A,e)=A", "e=a")
	for end := range left {
		checkPeaksOfTwo(t, s, equation(left[:end], []int64{0}), law("i(A)=e"))
		checkPeaksOfTwo(t, s, law("m(A,e)=A"), equation(left[:end], []int64{0}))
		checkPeaksOfTwo(t, s, equation(left, left[:end]), law("i(A)=e"))
	}
	for end := range rules {
		checkPeaks(t, s, documentOrder, rules[:end], 0, 3)
		mustBe(t, "IsConfluent by a precedence that ends too early", impl.IsConfluent(s, documentOrder[:end], rules), false)
	}
}

func TestP1NothingIsKeptOfRulesThatHavePeaks(t *testing.T) {
	s, order, rules := exampleSignature(), slices.Clone(documentOrder), laws("m(e,A)=A", "m(e,e)=a")
	peakAnswers(s, order, rules, rules[0], rules[1], 0)
	copy(rules[1].Left, read("m(a,e)"))
	mustBeEquations(t, "AllPeaks of the new rules", impl.AllPeaks(s, rules), impl.EquationsResult{})
	mustBe(t, "PeakOf the new rules", impl.PeakOf(s, rules[0], rules[1], 0), impl.EquationResult{Code: impl.ErrNone})
	mustBe(t, "IsConfluent of the new rules by the old precedence", impl.IsConfluent(s, order, rules), true)
	rules[0] = law("m(A,B)=B")
	mustBeEquations(t, "PeaksOf the new rules", impl.PeaksOf(s, rules[0], rules[1], false), impl.EquationsResult{List: laws("e=a")})
	mustBeEquations(t, "UnjoinedOf the new rules", impl.UnjoinedOf(s, rules, 0), impl.EquationsResult{List: laws("e=a", "a=e")})
	rules[1].Right[0] = 0
	mustBeEquations(t, "UnjoinedOf the new Right", impl.UnjoinedOf(s, rules, 0), impl.EquationsResult{})
	copy(order, []int64{0, 0, 0, 0})
	mustBe(t, "IsConfluent by the new precedence", impl.IsConfluent(s, order, rules), false)
	s.Symbols[2] = impl.Symbol{Name: "m", Arity: 1}
	mustBe(t, "AllPeaks by the new arity", impl.AllPeaks(s, rules), impl.EquationsResult{Code: impl.ErrForm})
}
