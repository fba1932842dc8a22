package tests

import (
	"fmt"
	"math"
	"slices"
	"testing"

	"loop.example/g00653/impl"
)

func isKnownRule(e impl.Equation) bool {
	if len(e.Left) == 1 && isKnownVariable(e.Left[0]) {
		return false
	}
	for _, node := range e.Right {
		if isKnownVariable(node) && !slices.Contains(e.Left, node) {
			return false
		}
	}
	return true
}

func wantRulesFault(s impl.Signature, rules []impl.Equation) int64 {
	if code := wantEquationsFault(s, rules); code != impl.OK {
		return code
	}
	for _, rule := range rules {
		if !isKnownRule(rule) {
			return impl.ErrForm
		}
	}
	return impl.OK
}

func wantRewriteFault(s impl.Signature, rules []impl.Equation, term []int64) int64 {
	if code := wantRulesFault(s, rules); code != impl.OK {
		return code
	}
	return wantTermFault(s, term)
}

// wantFits tells what stands for the variables of that rule's left side, or false where it does not fit there.
func wantFits(s impl.Signature, rule impl.Equation, term []int64, place int) (map[int64]tree, bool) {
	trees := map[int64]tree{}
	fits := matchTrees(wholeTree(s, rule.Left), partsOf(wholeTree(s, term))[place], trees)
	return trees, fits
}

// wantRedex holds each place at which a rule fits against the best one so far: the ends of their terms first, then the places.
func wantRedex(s impl.Signature, rules []impl.Equation, term []int64) impl.RedexResult {
	if code := wantRewriteFault(s, rules, term); code != impl.OK {
		return impl.RedexResult{Code: code}
	}
	best, bestEnd := impl.RedexResult{Code: impl.ErrNone}, len(term)+1
	for place, part := range partsOf(wholeTree(s, term)) {
		number := slices.IndexFunc(rules, func(rule impl.Equation) bool {
			_, fits := wantFits(s, rule, term, place)
			return fits
		})
		end := place + len(nodesOf(part))
		if number >= 0 && end <= bestEnd {
			best, bestEnd = impl.RedexResult{Place: int64(place), Rule: int64(number)}, end
		}
	}
	return best
}

func wantRewritten(s impl.Signature, rules []impl.Equation, rule int64, place int64, term []int64) impl.TermResult {
	if code := wantRewriteFault(s, rules, term); code != impl.OK {
		return impl.TermResult{Code: code}
	}
	if rule < 0 || rule >= int64(len(rules)) || place < 0 || place >= int64(len(term)) {
		return impl.TermResult{Code: impl.ErrRange}
	}
	trees, fits := wantFits(s, rules[rule], term, int(place))
	if !fits {
		return impl.TermResult{Code: impl.ErrNone}
	}
	nodes := nodesOf(graft(wholeTree(s, term), int(place), dress(wholeTree(s, rules[rule].Right), trees)))
	if len(nodes) > 24 {
		return impl.TermResult{Code: impl.ErrMany}
	}
	return impl.TermResult{Term: nodes}
}

func wantNormal(s impl.Signature, rules []impl.Equation, term []int64, fuel int64) impl.NormalResult {
	if code := wantRewriteFault(s, rules, term); code != impl.OK {
		return impl.NormalResult{Code: code}
	}
	if fuel < 0 || fuel > 200 {
		return impl.NormalResult{Code: impl.ErrRange}
	}
	redex := wantRedex(s, rules, term)
	if redex.Code != impl.OK {
		return impl.NormalResult{Term: term}
	}
	if fuel == 0 {
		return impl.NormalResult{Code: impl.ErrFuel}
	}
	next := wantRewritten(s, rules, redex.Rule, redex.Place, term)
	if next.Code != impl.OK {
		return impl.NormalResult{Code: next.Code}
	}
	rest := wantNormal(s, rules, next.Term, fuel-1)
	if rest.Code == impl.OK {
		rest.Steps++
	}
	return rest
}

func wantJoined(s impl.Signature, rules []impl.Equation, a []int64, b []int64, fuel int64) impl.IntResult {
	first, second := wantNormal(s, rules, a, fuel), wantNormal(s, rules, b, fuel)
	switch {
	case first.Code != impl.OK:
		return impl.IntResult{Code: first.Code}
	case second.Code != impl.OK:
		return impl.IntResult{Code: second.Code}
	case slices.Equal(first.Term, second.Term):
		return impl.IntResult{Value: 1}
	}
	return impl.IntResult{}
}

var edgeFuels = []int64{math.MinInt64, -1, 0, 1, 2, 200, 201, math.MaxInt64}

// checkRewriting asks all that is asked of rules and one term, with some fuels.
func checkRewriting(t *testing.T, s impl.Signature, rules []impl.Equation, term []int64, fuels ...int64) {
	t.Helper()
	who := fmt.Sprintf("of %s by %.200v in %.60v", brief(term), rules, s)
	redex := wantRedex(s, rules, term)
	mustBe(t, fmt.Sprintf("RulesFault of %.200v in %.60v", rules, s), impl.RulesFault(s, rules), wantRulesFault(s, rules))
	mustBe(t, "FindRedex "+who, impl.FindRedex(s, rules, term), redex)
	mustBe(t, "IsNormal "+who, impl.IsNormal(s, rules, term), redex.Code == impl.ErrNone)
	for _, fuel := range fuels {
		mustBe(t, fmt.Sprint("NormalForm with ", fuel, " ", who), impl.NormalForm(s, rules, term, fuel), wantNormal(s, rules, term, fuel))
	}
}

// checkRewrittenEverywhere asks RewriteAt for all rules at all places, and for numbers around them.
func checkRewrittenEverywhere(t *testing.T, s impl.Signature, rules []impl.Equation, term []int64) {
	t.Helper()
	who := fmt.Sprintf("of %s by %.200v in %.60v", brief(term), rules, s)
	ask := func(number int64, place int64) {
		t.Helper()
		mustBe(t, fmt.Sprint("RewriteAt ", place, " by the rule ", number, " ", who), impl.RewriteAt(s, rules, number, place, term), wantRewritten(s, rules, number, place, term))
	}
	for number := range int64(min(len(rules), 13)) {
		for place := range int64(min(len(term), 30)) {
			ask(number, place)
		}
	}
	for _, beyond := range []int64{math.MinInt64, -2, -1, int64(len(rules)), int64(len(rules)) + 1, int64(len(term)), int64(len(term)) + 1, 12, 24, 1 << 32, math.MaxInt64} {
		ask(beyond, 0)
		ask(0, beyond)
		ask(beyond, beyond)
	}
}

func checkJoined(t *testing.T, s impl.Signature, rules []impl.Equation, a []int64, b []int64, fuels ...int64) {
	t.Helper()
	for _, fuel := range fuels {
		who := fmt.Sprintf("AreJoined of %s and %s by %.200v with %d in %.60v", brief(a), brief(b), rules, fuel, s)
		mustBe(t, who, impl.AreJoined(s, rules, a, b, fuel), wantJoined(s, rules, a, b, fuel))
	}
}

// groupLaws are the ten rules by which terms over e, i and m are the same just where they are so in all groups.
func groupLaws() []impl.Equation {
	return laws("m(e,A)=A", "m(A,e)=A", "m(i(A),A)=e", "m(A,i(A))=e", "i(e)=e", "i(i(A))=A", "m(i(A),m(A,B))=B", "m(A,m(i(A),B))=B", "m(m(A,B),C)=m(A,m(B,C))", "i(m(A,B))=m(i(B),i(A))")
}

// noConstants is the signature whose fault is ErrNone, as what FindRedex tells of a normal term.
func noConstants() impl.Signature {
	return signature(impl.Symbol{Name: "i", Arity: 1})
}

func TestBoundsOfRewritingAreThoseOfTheDocument(t *testing.T) {
	mustBe(t, "MaxFuel", impl.MaxFuel, 200)
}

func TestRulesFaultKnownValues(t *testing.T) {
	s := exampleSignature()
	for _, c := range []struct {
		what string
		list []impl.Equation
		code int64
	}{
		{"nil", nil, impl.OK},
		{"no rules", []impl.Equation{}, impl.OK},
		{"one", laws("m(e,A)=A"), impl.OK},
		{"the ten of groups", groupLaws(), impl.OK},
		{"the same rule twice", laws("a=e", "a=e"), impl.OK},
		{"MaxEquations", slices.Repeat(laws("a=e"), 12), impl.OK},
		{"one more", slices.Repeat(laws("a=e"), 13), impl.ErrMany},
		{"a Left that is the first variable", laws("A=e"), impl.ErrForm},
		{"a Left that is a variable, as its Right is", laws("A=A"), impl.ErrForm},
		{"a Left that is the last variable of rules", laws("F=F"), impl.ErrForm},
		{"a Left that is a variable inside of its Right", laws("A=i(A)"), impl.ErrForm},
		{"a Left that is a constant", laws("e=e"), impl.OK},
		{"a Right that is a variable its Left has not", laws("e=A"), impl.ErrForm},
		{"a Right that is another variable", laws("i(A)=B"), impl.ErrForm},
		{"a Right with a variable more, first", laws("m(A,A)=m(B,A)"), impl.ErrForm},
		{"a Right with a variable more, last", laws("m(A,B)=m(m(B,A),C)"), impl.ErrForm},
		{"a Right with a variable more, deep inside", laws("m(A,B)=i(m(i(i(F)),e))"), impl.ErrForm},
		{"a Right with fewer variables", laws("m(A,B)=i(B)"), impl.OK},
		{"a Right without variables", laws("m(F,A)=e"), impl.OK},
		{"a Right with a variable more often", laws("i(A)=m(A,m(A,A))"), impl.OK},
		{"rules that rise", laws("e=m(a,e)", "i(A)=i(i(A))"), impl.OK},
		{"a rule with the same sides", laws("i(A)=i(A)"), impl.OK},
		{"all variables of rules", laws("m(m(m(A,B),m(C,D)),m(E,F))=m(m(F,E),m(m(D,C),m(B,A)))"), impl.OK},
		{"a variable beyond those of rules in Left", laws("i(G)=e"), impl.ErrRange},
		{"a variable beyond those of rules in both", laws("i(G)=G"), impl.ErrRange},
		{"a Left that is a variable beyond those of rules", laws("G=e"), impl.ErrRange},
		{"a Right that is a variable beyond those of rules", laws("e=L"), impl.ErrRange},
		{"no sides", []impl.Equation{{}}, impl.ErrMany},
		{"no Left", []impl.Equation{equation(nil, []int64{0})}, impl.ErrMany},
		{"no Right", []impl.Equation{equation([]int64{0}, nil)}, impl.ErrMany},
		{"half a side", []impl.Equation{equation([]int64{2, 0}, []int64{0})}, impl.ErrForm},
		{"a node that is none", []impl.Equation{equation([]int64{0}, []int64{4})}, impl.ErrRange},
		{"sides of MaxNodes", []impl.Equation{equation(fullComb(), chain(24))}, impl.OK},
		{"a side of one node more", []impl.Equation{equation(chain(24), chain(25))}, impl.ErrMany},
		{"no rule ahead of a good one", laws("A=e", "a=e"), impl.ErrForm},
		{"no rule behind good ones", laws("a=e", "i(A)=A", "e=A"), impl.ErrForm},
		{"no rule ahead of an equation with a fault: all equations are asked first", append(laws("A=e"), impl.Equation{}), impl.ErrMany},
		{"no rule ahead of an equation with a variable too great", laws("e=A", "i(G)=G"), impl.ErrRange},
		{"no rule, and one too many", append(laws("A=e"), slices.Repeat(laws("a=e"), 12)...), impl.ErrMany},
	} {
		mustBe(t, "RulesFault of "+c.what, impl.RulesFault(s, c.list), c.code)
		mustBe(t, "what is wanted of "+c.what, wantRulesFault(s, c.list), c.code)
		checkRewriting(t, s, c.list, read("m(e,i(i(a)))"), edgeFuels...)
	}
	for place := range 12 {
		for _, bad := range laws("A=e", "e=A", "i(A)=m(A,B)", "i(G)=G") {
			rules := slices.Repeat(laws("a=e"), 12)
			rules[place] = bad
			mustBe(t, fmt.Sprint("RulesFault with ", bad, " at ", place), impl.RulesFault(s, rules), wantRulesFault(s, rules))
		}
	}
	mustBe(t, "RulesFault of no rules in no signature", impl.RulesFault(impl.Signature{}, nil), int64(impl.ErrMany))
	mustBe(t, "RulesFault of no rules without a constant", impl.RulesFault(noConstants(), nil), int64(impl.ErrNone))
	mustBe(t, "RulesFault of too many rules without a constant", impl.RulesFault(noConstants(), make([]impl.Equation, 13)), int64(impl.ErrNone))
}

func TestFindRedexKnownValues(t *testing.T) {
	s, none := exampleSignature(), impl.RedexResult{Code: impl.ErrNone}
	at := func(place, rule int64) impl.RedexResult { return impl.RedexResult{Place: place, Rule: rule} }
	for _, c := range []struct {
		what  string
		rules []impl.Equation
		term  string
		want  impl.RedexResult
	}{
		{"the document's example", laws("m(e,A)=A"), "m(e,m(e,a))", at(2, 0)},
		{"no rules", nil, "m(e,m(e,a))", none},
		{"a rule that fits at no place", laws("m(e,A)=A"), "m(a,m(a,e))", none},
		{"a rule that fits at the root alone", laws("m(e,A)=A"), "m(e,m(a,a))", at(0, 0)},
		{"a rule that fits at the first leaf alone", laws("e=a"), "m(e,m(a,a))", at(1, 0)},
		{"a rule that fits at the last leaf alone", laws("a=e"), "m(e,m(e,a))", at(4, 0)},
		{"a rule that fits at a leaf in the middle alone", laws("a=e"), "m(e,m(a,e))", at(3, 0)},
		{"a rule that fits at an inner place alone", laws("i(A)=A"), "m(e,m(i(e),a))", at(3, 0)},
		{"a constant alone", laws("a=e"), "a", at(0, 0)},
		{"a variable alone", laws("a=e", "i(A)=A", "m(A,B)=A"), "A", none},
		{"a term of variables that a rule's Left is", laws("m(A,B)=A"), "m(B,A)", at(0, 0)},
		{"no rule fits where a variable stands", laws("m(e,A)=A"), "m(B,m(B,A))", none},
		{"a variable of the term is no constant of the rule", laws("i(e)=e"), "i(A)", none},
		{"a variable twice over parts that are the same", laws("m(A,A)=A"), "m(i(e),i(e))", at(0, 0)},
		{"a variable twice over variables that are the same", laws("m(A,A)=A"), "m(B,B)", at(0, 0)},
		{"a variable twice over parts that are not the same", laws("m(A,A)=A"), "m(i(e),i(a))", none},
		{"a variable twice over variables that are not the same", laws("m(A,A)=A"), "m(A,B)", none},
		{"a variable twice over parts of which one begins the other", laws("m(A,A)=A"), "m(i(e),i(i(e)))", none},
		{"a variable three times", laws("m(A,m(A,A))=A"), "m(a,m(m(e,m(e,e)),m(e,m(e,a))))", at(3, 0)},
		{"a variable twice, inside alone", laws("m(i(A),A)=e"), "m(i(e),m(i(a),a))", at(3, 0)},
		{"one inside of the other", laws("i(A)=A"), "i(i(i(e)))", at(2, 0)},
		{"one inside of the other, in the first argument", laws("m(A,e)=A"), "m(m(m(a,e),e),e)", at(2, 0)},
		{"one inside of the other, in the last argument", laws("m(e,A)=A"), "m(e,m(e,m(e,a)))", at(4, 0)},
		{"the outer one by an earlier rule", laws("m(A,B)=A", "i(A)=A"), "m(e,i(e))", at(2, 1)},
		{"the outer one by an earlier rule, both end together", laws("i(i(A))=A", "i(e)=e"), "i(i(e))", at(1, 1)},
		{"the outer one by an earlier rule, a leaf inside", laws("i(e)=a", "e=a"), "i(e)", at(1, 1)},
		{"one beside the other", laws("i(A)=A"), "m(i(e),i(a))", at(1, 0)},
		{"one beside the other, the first one by a later rule", laws("i(a)=a", "i(e)=e"), "m(i(e),i(a))", at(1, 1)},
		{"one beside the other, the first one greater", laws("i(A)=A", "a=e"), "m(i(m(e,e)),a)", at(1, 0)},
		{"a later leaf inside of one beside", laws("i(A)=A"), "m(i(e),i(i(i(a))))", at(1, 0)},
		{"one beside that begins first, and one inside", laws("i(A)=A"), "m(i(i(e)),i(a))", at(2, 0)},
		{"one that begins later and ends first", laws("m(A,a)=A", "i(A)=A"), "m(m(e,i(e)),a)", at(3, 1)},
		{"one that begins first and ends last", laws("m(A,a)=A", "i(e)=e"), "m(m(a,i(e)),a)", at(3, 1)},
		{"several that end together: the last one", laws("m(A,B)=A", "i(A)=A", "a=e"), "m(e,m(e,i(i(a))))", at(6, 2)},
		{"several that end together, without the leaf", laws("m(A,B)=A", "i(A)=A"), "m(e,m(e,i(i(a))))", at(5, 1)},
		{"several that end together, the outer ones alone", laws("m(A,B)=A"), "m(e,m(e,i(i(a))))", at(2, 0)},
		{"several that end together behind one that ends first", laws("m(A,B)=A", "e=a"), "m(e,m(e,i(i(a))))", at(1, 1)},
		{"two rules at the same place", laws("m(e,A)=A", "m(A,e)=A"), "m(e,e)", at(0, 0)},
		{"two rules at the same place, turned", laws("m(A,e)=A", "m(e,A)=A"), "m(e,e)", at(0, 0)},
		{"the second rule alone", laws("m(A,e)=A", "m(e,A)=A"), "m(e,a)", at(0, 1)},
		{"the same rule twice", laws("m(e,A)=A", "m(e,A)=A"), "m(e,a)", at(0, 0)},
		{"the last one of several rules", laws("i(a)=a", "m(a,A)=A", "m(A,a)=A", "i(i(A))=A", "m(A,A)=e"), "m(e,m(e,e))", at(2, 4)},
		{"a rule whose Right is not less", laws("i(A)=i(i(A))"), "m(e,i(e))", at(2, 0)},
		{"a rule with the same sides", laws("i(A)=i(A)"), "m(e,i(e))", at(2, 0)},
	} {
		mustBe(t, "FindRedex: "+c.what, impl.FindRedex(s, c.rules, read(c.term)), c.want)
		mustBe(t, "IsNormal: "+c.what, impl.IsNormal(s, c.rules, read(c.term)), c.want == none)
		mustBe(t, "what is wanted: "+c.what, wantRedex(s, c.rules, read(c.term)), c.want)
		checkRewriting(t, s, c.rules, read(c.term), edgeFuels...)
		checkRewrittenEverywhere(t, s, c.rules, read(c.term))
	}
	twelve := slices.Concat(slices.Repeat(laws("i(a)=a"), 11), laws("m(e,A)=A"))
	mustBe(t, "FindRedex of the last one of MaxEquations", impl.FindRedex(s, twelve, read("m(a,m(e,a))")), at(2, 11))
	mustBe(t, "FindRedex in MaxNodes", impl.FindRedex(s, laws("a=e"), chain(24)), at(23, 0))
	mustBe(t, "FindRedex of a rule of MaxNodes", impl.FindRedex(s, []impl.Equation{equation(chain(24), []int64{0})}, chain(24)), at(0, 0))
	mustBe(t, "FindRedex of a rule greater than the term", impl.FindRedex(s, []impl.Equation{equation(chain(24), []int64{0})}, chain(23)), none)
}

func TestRewriteAtKnownValues(t *testing.T) {
	s := exampleSignature()
	for _, c := range []struct {
		what        string
		rules       []impl.Equation
		rule, place int64
		term, want  string
	}{
		{"the root", laws("m(e,A)=A"), 0, 0, "m(e,m(e,a))", "m(e,a)"},
		{"inside", laws("m(e,A)=A"), 0, 2, "m(e,m(e,a))", "m(e,a)"},
		{"the first argument", laws("i(i(A))=A"), 0, 1, "m(i(i(e)),a)", "m(e,a)"},
		{"the first leaf", laws("e=i(a)"), 0, 1, "m(e,e)", "m(i(a),e)"},
		{"the last leaf", laws("e=i(a)"), 0, 2, "m(e,e)", "m(e,i(a))"},
		{"another place than the first redex", laws("i(A)=A"), 0, 0, "i(m(i(e),i(a)))", "m(i(e),i(a))"},
		{"another place than the first redex, behind it", laws("i(A)=A"), 0, 4, "i(m(i(e),i(a)))", "i(m(i(e),a))"},
		{"another rule than the first one that fits", laws("m(e,A)=A", "m(A,e)=i(A)"), 1, 0, "m(e,e)", "i(e)"},
		{"the last rule", laws("a=e", "i(e)=e", "m(A,B)=m(B,A)"), 2, 1, "i(m(e,i(a)))", "i(m(i(a),e))"},
		{"the term becomes greater", laws("i(A)=m(A,m(A,a))"), 0, 1, "m(i(m(e,B)),a)", "m(m(m(e,B),m(m(e,B),a)),a)"},
		{"the term becomes less", laws("m(A,B)=e"), 0, 1, "i(m(m(a,a),i(A)))", "i(e)"},
		{"the whole becomes a constant", laws("m(A,B)=e"), 0, 0, "m(m(a,a),i(A))", "e"},
		{"the whole becomes its part", laws("m(A,m(B,C))=B"), 0, 0, "m(a,m(i(A),e))", "i(A)"},
		{"the same term", laws("i(A)=i(A)"), 0, 1, "m(i(e),a)", "m(i(e),a)"},
		{"variables of the term are not those of the rule", laws("m(A,B)=m(B,A)"), 0, 0, "m(B,i(A))", "m(i(A),B)"},
		{"what comes in is not looked at again", laws("m(A,B)=m(B,A)"), 0, 0, "m(B,A)", "m(A,B)"},
		{"variables beyond those of rules in the term", laws("m(A,B)=m(B,i(A))"), 0, 1, "i(m(L,G))", "i(m(G,i(L)))"},
		{"a variable twice in Left", laws("m(A,i(A))=A"), 0, 1, "i(m(i(B),i(i(B))))", "i(i(B))"},
		{"a variable twice in Left and in Right", laws("m(A,A)=m(i(A),i(A))"), 0, 0, "m(i(a),i(a))", "m(i(i(a)),i(i(a)))"},
		{"the rule fits inside of what it makes", laws("i(A)=i(i(A))"), 0, 0, "i(e)", "i(i(e))"},
	} {
		mustBe(t, "RewriteAt: "+c.what, impl.RewriteAt(s, c.rules, c.rule, c.place, read(c.term)), impl.TermResult{Term: read(c.want)})
		checkRewrittenEverywhere(t, s, c.rules, read(c.term))
	}
	for _, c := range []struct {
		what        string
		rules       []impl.Equation
		rule, place int64
		term        string
		code        int64
	}{
		{"that rule does not fit there", laws("m(e,A)=A"), 0, 1, "m(e,m(e,a))", impl.ErrNone},
		{"another rule fits there", laws("i(A)=A", "m(e,A)=A"), 0, 0, "m(e,a)", impl.ErrNone},
		{"it fits inside of there", laws("i(A)=A"), 0, 0, "m(i(e),i(e))", impl.ErrNone},
		{"it fits around there", laws("i(A)=A"), 0, 1, "i(e)", impl.ErrNone},
		{"parts that are not the same", laws("m(A,A)=A"), 0, 0, "m(e,a)", impl.ErrNone},
		{"a variable stands there", laws("e=a"), 0, 1, "i(A)", impl.ErrNone},
		{"rule -1", laws("m(e,A)=A"), -1, 0, "m(e,a)", impl.ErrRange},
		{"one rule more", laws("m(e,A)=A"), 1, 0, "m(e,a)", impl.ErrRange},
		{"no rules", nil, 0, 0, "m(e,a)", impl.ErrRange},
		{"place -1", laws("m(e,A)=A"), 0, -1, "m(e,a)", impl.ErrRange},
		{"one place more", laws("m(e,A)=A"), 0, 3, "m(e,a)", impl.ErrRange},
		{"both", laws("m(e,A)=A"), 1, 3, "m(e,a)", impl.ErrRange},
		{"one rule more, where none fits", laws("i(A)=A"), 1, 0, "m(e,a)", impl.ErrRange},
		{"the last rule, at the last place", laws("m(e,A)=A", "a=e"), 1, 2, "m(e,a)", impl.OK},
		{"the last rule, at one place more", laws("m(e,A)=A", "a=e"), 1, 3, "m(e,a)", impl.ErrRange},
		{"one rule more, at the last place", laws("m(e,A)=A", "a=e"), 2, 2, "m(e,a)", impl.ErrRange},
	} {
		mustBe(t, "the code of RewriteAt: "+c.what, impl.RewriteAt(s, c.rules, c.rule, c.place, read(c.term)).Code, c.code)
		checkRewrittenEverywhere(t, s, c.rules, read(c.term))
	}
}

func TestRewriteAtFillsMaxNodesAndNoMore(t *testing.T) {
	s := exampleSignature()
	doubled, doubledInside, grown, many := laws("i(A)=m(A,A)"), laws("i(A)=i(m(A,A))"), laws("a=i(a)"), []impl.Equation{equation(read("i(A)"), varied(slices.Repeat([]int64{-1}, 12)...))}
	for _, c := range []struct {
		what  string
		rules []impl.Equation
		place int64
		term  []int64
		size  int
	}{
		{"at the root", doubledInside, 0, append([]int64{1}, chain(11)...), 24},
		{"at the root, one more", doubled, 0, append([]int64{1}, chain(12)...), 25},
		{"at the root, many more", many, 0, chain(24), 287},
		{"inside", doubled, 1, slices.Concat([]int64{2, 1}, chain(5), chain(12)), 24},
		{"inside, one more", doubled, 1, slices.Concat([]int64{2, 1}, chain(5), chain(13)), 25},
		{"inside, the last argument", doubled, 13, slices.Concat([]int64{2}, chain(12), []int64{1}, chain(5)), 24},
		{"inside, the last argument, one more", doubled, 14, slices.Concat([]int64{2}, chain(13), []int64{1}, chain(5)), 25},
		{"at a leaf", grown, 22, chain(23), 24},
		{"at a leaf, one more", grown, 23, chain(24), 25},
		{"from MaxNodes to MaxNodes", laws("m(A,B)=m(B,A)"), 1, fullComb(), 24},
		{"from MaxNodes to less", laws("i(A)=A"), 0, fullComb(), 23},
		{"a Right of MaxNodes without variables, at the root", []impl.Equation{equation(read("e"), chain(24))}, 0, read("e"), 24},
		{"a Right of MaxNodes without variables, inside", []impl.Equation{equation(read("e"), chain(24))}, 1, read("i(e)"), 25},
		{"a Right of many nodes, and what stands for its variable has one", many, 0, read("i(a)"), 23},
		{"a Right of many nodes, and what stands for its variable has two", many, 0, read("i(i(a))"), 35},
	} {
		rewritten := impl.RewriteAt(s, c.rules, 0, c.place, c.term)
		want := impl.TermResult{Code: impl.ErrMany}
		if c.size <= 24 {
			want = wantRewritten(s, c.rules, 0, c.place, c.term)
			mustBe(t, "how many nodes there are: "+c.what, len(want.Term), c.size)
		}
		mustBe(t, "RewriteAt: "+c.what, rewritten, want)
		checkRewrittenEverywhere(t, s, c.rules, c.term)
	}
}

func TestNormalFormKnownValues(t *testing.T) {
	s := exampleSignature()
	for _, c := range []struct {
		what       string
		rules      []impl.Equation
		term, want string
		steps      int64
	}{
		{"the document's example", laws("m(e,A)=A"), "m(e,m(e,a))", "a", 2},
		{"a term that is normal", laws("m(e,A)=A"), "m(a,m(a,e))", "m(a,m(a,e))", 0},
		{"no rules", nil, "m(e,m(e,a))", "m(e,m(e,a))", 0},
		{"a variable", laws("m(e,A)=A"), "L", "L", 0},
		{"one step at a leaf", laws("a=e"), "a", "e", 1},
		{"each leaf", laws("a=e"), "m(m(a,e),m(a,a))", "m(m(e,e),m(e,e))", 3},
		{"a step makes a new redex inside", laws("i(A)=m(e,A)", "m(e,A)=A"), "i(i(a))", "a", 4},
		{"a step makes a new redex around", laws("a=e", "m(e,e)=e"), "m(a,m(a,a))", "e", 5},
		{"from the inside: the argument is doubled when it is normal", laws("i(A)=m(A,A)", "a=e"), "i(a)", "m(e,e)", 2},
		{"from the inside: what is thrown away is rewritten first", laws("m(A,B)=A", "a=e"), "m(e,a)", "e", 2},
		{"from the left to the right, one beside the other", laws("m(e,a)=i(e)", "i(A)=a"), "m(m(e,a),i(a))", "m(a,a)", 3},
		{"groups: turned and brought together", groupLaws(), "m(i(m(A,B)),A)", "i(B)", 4},
		{"the first rule of two wins", laws("i(A)=e", "i(A)=a"), "i(i(a))", "e", 2},
		{"the first rule of two wins, turned", laws("i(A)=a", "i(A)=e"), "i(i(e))", "a", 2},
		{"brackets to the right", laws("m(m(A,B),C)=m(A,m(B,C))"), "m(m(m(a,e),a),e)", "m(a,m(e,m(a,e)))", 3},
		{"a step that makes the term greater on the way", laws("i(A)=m(A,m(A,A))", "m(A,B)=e"), "i(i(a))", "e", 6},
	} {
		want := impl.NormalResult{Term: read(c.want), Steps: c.steps}
		for _, fuel := range []int64{want.Steps, want.Steps + 1, 200} {
			mustBe(t, fmt.Sprint("NormalForm with ", fuel, ": ", c.what), impl.NormalForm(s, c.rules, read(c.term), fuel), want)
		}
		for fuel := range want.Steps {
			mustBe(t, fmt.Sprint("NormalForm with ", fuel, ": ", c.what), impl.NormalForm(s, c.rules, read(c.term), fuel), impl.NormalResult{Code: impl.ErrFuel})
		}
		checkRewriting(t, s, c.rules, read(c.term), edgeFuels...)
	}
}

// letters has five symbols of one argument, the numbers 1 to 5, and a constant.
func letters() impl.Signature {
	return signature(impl.Symbol{Name: "z"}, impl.Symbol{Name: "a", Arity: 1}, impl.Symbol{Name: "b", Arity: 1}, impl.Symbol{Name: "c", Arity: 1}, impl.Symbol{Name: "d", Arity: 1}, impl.Symbol{Name: "e", Arity: 1})
}

// swaps are the ten rules that turn two letters round where the greater one is ahead.
func swaps() []impl.Equation {
	rules := []impl.Equation{}
	for greater := int64(2); greater <= 5; greater++ {
		for less := int64(1); less < greater; less++ {
			rules = append(rules, equation([]int64{greater, less, -1}, []int64{less, greater, -1}))
		}
	}
	return rules
}

// wordOf makes a term of MaxNodes from which the swaps come to its sorted letters in just so many steps, at most 211, whichever they do first: each one mends one pair of letters alone.
func wordOf(steps int) []int64 {
	word := slices.Concat(slices.Repeat([]int64{5}, 5), slices.Repeat([]int64{4}, 5), slices.Repeat([]int64{3}, 5), slices.Repeat([]int64{2}, 4), slices.Repeat([]int64{1}, 4))
	for range 211 - steps {
		place := 1
		for word[place-1] <= word[place] {
			place++
		}
		word[place-1], word[place] = word[place], word[place-1]
	}
	return append(word, 0)
}

func TestNormalFormDoesMaxFuelStepsAndNoMore(t *testing.T) {
	s, rules := letters(), swaps()
	sorted := slices.Concat(slices.Repeat([]int64{1}, 4), slices.Repeat([]int64{2}, 4), slices.Repeat([]int64{3}, 5), slices.Repeat([]int64{4}, 5), slices.Repeat([]int64{5}, 5), []int64{0})
	for _, steps := range []int64{0, 1, 2, 23, 24, 25, 100, 199, 200, 201, 202, 211} {
		word := wordOf(int(steps))
		for _, fuel := range []int64{-1, 0, 1, steps - 1, steps, steps + 1, 199, 200, 201} {
			want := impl.NormalResult{Term: sorted, Steps: steps}
			switch {
			case fuel < 0 || fuel > 200:
				want = impl.NormalResult{Code: impl.ErrRange}
			case fuel < steps:
				want = impl.NormalResult{Code: impl.ErrFuel}
			}
			mustBe(t, fmt.Sprint("NormalForm, with ", fuel, ", of what takes ", steps), impl.NormalForm(s, rules, word, fuel), want)
			joined := impl.IntResult{Code: want.Code}
			if want.Code == impl.OK {
				joined.Value = 1
			}
			mustBe(t, fmt.Sprint("AreJoined, with ", fuel, ", of what takes ", steps, " and none"), impl.AreJoined(s, rules, word, sorted, fuel), joined)
			mustBe(t, fmt.Sprint("AreJoined, with ", fuel, ", of none and what takes ", steps), impl.AreJoined(s, rules, sorted, word, fuel), joined)
		}
	}
}

func TestNormalFormBoundsOfFuel(t *testing.T) {
	s := exampleSignature()
	for _, c := range []struct {
		what  string
		rules []impl.Equation
		term  string
		fuel  int64
		code  int64
	}{
		{"the least number", laws("a=e"), "e", math.MinInt64, impl.ErrRange},
		{"-1, of a term that is normal", laws("a=e"), "e", -1, impl.ErrRange},
		{"-1, of a term that is not", laws("a=e"), "a", -1, impl.ErrRange},
		{"0, of a term that is normal", laws("a=e"), "e", 0, impl.OK},
		{"0, of a term that is not", laws("a=e"), "a", 0, impl.ErrFuel},
		{"0, and no rules", nil, "a", 0, impl.OK},
		{"-1, and no rules", nil, "a", -1, impl.ErrRange},
		{"one step", laws("a=e"), "a", 1, impl.OK},
		{"two steps, 1", laws("a=e"), "m(a,a)", 1, impl.ErrFuel},
		{"two steps, 2", laws("a=e"), "m(a,a)", 2, impl.OK},
		{"MaxFuel, of a term that is normal", laws("a=e"), "e", 200, impl.OK},
		{"one more, of a term that is normal", laws("a=e"), "e", 201, impl.ErrRange},
		{"one more, and no rules", nil, "e", 201, impl.ErrRange},
		{"the greatest number", laws("a=e"), "e", math.MaxInt64, impl.ErrRange},
		{"round for ever, 0", laws("a=e", "e=a"), "a", 0, impl.ErrFuel},
		{"round for ever, 1", laws("a=e", "e=a"), "a", 1, impl.ErrFuel},
		{"round for ever, MaxFuel", laws("a=e", "e=a"), "a", 200, impl.ErrFuel},
		{"round for ever, one more", laws("a=e", "e=a"), "a", 201, impl.ErrRange},
		{"a rule that turns the arguments for ever", laws("m(A,B)=m(B,A)"), "m(e,a)", 200, impl.ErrFuel},
		{"a rule that turns nothing", laws("i(A)=i(A)"), "i(e)", 200, impl.ErrFuel},
		{"a term that grows, fewer steps than it has room for", laws("a=i(a)"), "a", 22, impl.ErrFuel},
		{"a term that grows, just so many steps as it has room for", laws("a=i(a)"), "a", 23, impl.ErrFuel},
		{"a term that grows, one step more", laws("a=i(a)"), "a", 24, impl.ErrMany},
		{"a term that grows, MaxFuel", laws("a=i(a)"), "a", 200, impl.ErrMany},
		{"a term that grows, one more", laws("a=i(a)"), "a", 201, impl.ErrRange},
		{"a term that doubles, with no fuel left for the step that is too great", laws("i(A)=m(A,A)"), "i(i(i(i(a))))", 3, impl.ErrFuel},
		{"a term that doubles, with fuel left", laws("i(A)=m(A,A)"), "i(i(i(i(a))))", 4, impl.ErrMany},
		{"a first step that is too great, without fuel", laws("i(A)=m(m(m(A,A),m(A,A)),m(m(A,A),m(A,A)))"), "i(m(e,e))", 0, impl.ErrFuel},
		{"a first step that is too great, with fuel", laws("i(A)=m(m(m(A,A),m(A,A)),m(m(A,A),m(A,A)))"), "i(m(e,e))", 1, impl.ErrMany},
		{"a step that is too great behind others", laws("a=e", "i(A)=m(m(m(A,A),m(A,A)),m(m(A,A),m(A,A)))"), "i(m(a,a))", 2, impl.ErrFuel},
		{"a step that is too great behind others, with fuel", laws("a=e", "i(A)=m(m(m(A,A),m(A,A)),m(m(A,A),m(A,A)))"), "i(m(a,a))", 3, impl.ErrMany},
		{"an outer step would make it normal, but the inner one comes first", laws("m(A,B)=A", "i(A)=i(i(A))"), "m(e,i(a))", 200, impl.ErrMany},
	} {
		mustBe(t, "the code of NormalForm: "+c.what, impl.NormalForm(s, c.rules, read(c.term), c.fuel).Code, c.code)
		mustBe(t, "NormalForm: "+c.what, impl.NormalForm(s, c.rules, read(c.term), c.fuel), wantNormal(s, c.rules, read(c.term), c.fuel))
		for _, other := range []string{"e", "a", c.term} {
			checkJoined(t, s, c.rules, read(c.term), read(other), c.fuel)
			checkJoined(t, s, c.rules, read(other), read(c.term), c.fuel)
		}
	}
	for _, fuel := range []int64{-3, -2, -1, 0, 1, 2, 3, 4, 5, 6, 7, 8, 9, 10, 20, 21, 22, 23, 24, 25, 100, 199, 200, 201, 202, 256} {
		checkRewriting(t, s, laws("a=e", "e=a"), read("m(a,e)"), fuel)
		checkRewriting(t, s, laws("a=i(a)"), read("m(a,e)"), fuel)
		checkRewriting(t, s, groupLaws(), read("m(i(m(A,m(B,C))),m(A,B))"), fuel)
	}
}

func TestAreJoinedKnownValues(t *testing.T) {
	s := exampleSignature()
	code := func(code int64) impl.IntResult { return impl.IntResult{Code: code} }
	yes, no := impl.IntResult{Value: 1}, impl.IntResult{}
	double := laws("i(A)=m(m(m(A,A),m(A,A)),m(m(A,A),m(A,A)))", "a=e")
	for _, c := range []struct {
		what  string
		rules []impl.Equation
		a, b  []int64
		fuel  int64
		want  impl.IntResult
	}{
		{"one term twice", nil, read("a"), read("a"), 0, yes},
		{"two terms, and no rules", nil, read("a"), read("e"), 0, no},
		{"two variables", nil, read("A"), read("B"), 9, no},
		{"both end at the same term", laws("m(e,A)=A"), read("m(e,m(e,a))"), read("m(e,a)"), 9, yes},
		{"both end at two terms", laws("m(e,A)=A"), read("m(e,m(e,a))"), read("m(e,e)"), 9, no},
		{"both end at two terms of one length", laws("m(e,A)=A"), read("m(e,i(A))"), read("m(e,i(B))"), 9, no},
		{"both end at two terms of which one begins the other", laws("m(e,A)=A"), read("m(e,i(e))"), read("m(e,i(i(e)))"), 9, no},
		{"the first one is the other's normal form", laws("m(e,A)=A"), read("a"), read("m(e,a)"), 1, yes},
		{"the second one is the other's normal form", laws("m(e,A)=A"), read("m(e,a)"), read("a"), 1, yes},
		{"in groups", groupLaws(), read("i(m(A,i(B)))"), read("m(m(B,e),i(A))"), 20, yes},
		{"in groups, turned", groupLaws(), read("i(m(A,i(B)))"), read("m(i(A),B)"), 20, no},
		{"each one has the fuel for itself", laws("a=e"), read("m(a,a)"), read("m(a,a)"), 2, yes},
		{"too little fuel for both", laws("a=e"), read("m(a,a)"), read("m(a,a)"), 1, code(impl.ErrFuel)},
		{"too little fuel for the first one", laws("a=e"), read("m(a,a)"), read("a"), 1, code(impl.ErrFuel)},
		{"too little fuel for the second one", laws("a=e"), read("a"), read("m(a,a)"), 1, code(impl.ErrFuel)},
		{"too little fuel, and one term twice", laws("a=e"), read("a"), read("a"), 0, code(impl.ErrFuel)},
		{"fuel -1", nil, read("a"), read("a"), -1, code(impl.ErrRange)},
		{"one more than MaxFuel", nil, read("a"), read("a"), 201, code(impl.ErrRange)},
		{"too many nodes for the first one", double, read("i(m(e,e))"), read("e"), 9, code(impl.ErrMany)},
		{"too many nodes for the second one", double, read("e"), read("i(m(e,e))"), 9, code(impl.ErrMany)},
		{"too many nodes, and then too little fuel", double, read("i(m(e,e))"), read("m(a,a)"), 1, code(impl.ErrMany)},
		{"too little fuel, and then too many nodes", double, read("m(a,a)"), read("i(m(e,e))"), 1, code(impl.ErrFuel)},
		{"the rules ahead of the first term", laws("A=e"), nil, nil, -1, code(impl.ErrForm)},
		{"the first term ahead of the fuel", nil, []int64{4}, read("a"), -1, code(impl.ErrRange)},
		{"the first term's form ahead of the fuel", nil, []int64{1}, nil, -1, code(impl.ErrForm)},
		{"the first term ahead of the second one", nil, []int64{1}, nil, 9, code(impl.ErrForm)},
		{"the fuel ahead of the second term", nil, read("a"), []int64{1}, -1, code(impl.ErrRange)},
		{"too little fuel for the first one ahead of the second term", laws("a=e"), read("a"), []int64{1}, 0, code(impl.ErrFuel)},
		{"too many nodes for the first one ahead of the second term", double, read("i(m(e,e))"), []int64{1}, 9, code(impl.ErrMany)},
		{"the second term", laws("a=e"), read("a"), []int64{1}, 9, code(impl.ErrForm)},
		{"no second term", laws("a=e"), read("a"), nil, 9, code(impl.ErrMany)},
		{"the second term ahead of too little fuel for it", laws("a=e"), read("e"), []int64{3, 3}, 0, code(impl.ErrForm)},
	} {
		mustBe(t, "AreJoined: "+c.what, impl.AreJoined(s, c.rules, c.a, c.b, c.fuel), c.want)
		mustBe(t, "what is wanted: "+c.what, wantJoined(s, c.rules, c.a, c.b, c.fuel), c.want)
		checkJoined(t, s, c.rules, c.a, c.b, edgeFuels...)
		checkJoined(t, s, c.rules, c.b, c.a, edgeFuels...)
	}
}

func TestRewritingAsksCodesInTheirOrder(t *testing.T) {
	s, one := exampleSignature(), laws("m(e,A)=A")
	for _, c := range []struct {
		what  string
		s     impl.Signature
		rules []impl.Equation
		term  []int64
		code  int64
	}{
		{"a signature's fault ahead of too many rules", signature(impl.Symbol{Name: "a"}, impl.Symbol{Name: "a"}), make([]impl.Equation, 13), nil, impl.ErrTaken},
		{"a signature's fault and no rules", signature(impl.Symbol{Name: "a"}, impl.Symbol{Name: "a"}), nil, []int64{0}, impl.ErrTaken},
		{"no symbols at all", impl.Signature{}, nil, []int64{-1}, impl.ErrMany},
		{"too many rules ahead of a rule", s, append(laws("A=e"), make([]impl.Equation, 12)...), []int64{4}, impl.ErrMany},
		{"too many rules ahead of the term", s, slices.Repeat(one, 13), []int64{4}, impl.ErrMany},
		{"a rule's side ahead of the term", s, []impl.Equation{{}}, []int64{4}, impl.ErrMany},
		{"a rule's node ahead of the term", s, laws("i(G)=G"), nil, impl.ErrRange},
		{"a later rule's node ahead of the form of an earlier one", s, laws("A=e", "i(G)=G"), nil, impl.ErrRange},
		{"a rule's form ahead of no term", s, laws("A=e"), nil, impl.ErrForm},
		{"a rule's form ahead of the term's node", s, laws("e=A"), []int64{4}, impl.ErrForm},
		{"no term", s, one, nil, impl.ErrMany},
		{"no term and no rules", s, nil, nil, impl.ErrMany},
		{"a term of one node more than MaxNodes", s, one, chain(25), impl.ErrMany},
		{"the term's node", s, one, []int64{4}, impl.ErrRange},
		{"the term's node, where a rule fits ahead of it", s, laws("a=e"), []int64{2, 3, 4}, impl.ErrRange},
		{"the term's form", s, one, []int64{2, 0}, impl.ErrForm},
		{"the term's form, where a rule fits at its first nodes", s, laws("a=e"), []int64{3, 3}, impl.ErrForm},
	} {
		mustBe(t, "FindRedex: "+c.what, impl.FindRedex(c.s, c.rules, c.term), impl.RedexResult{Code: c.code})
		mustBe(t, "IsNormal: "+c.what, impl.IsNormal(c.s, c.rules, c.term), false)
		for _, number := range []int64{-1, 0, 1, 13, 200, 201} {
			mustBe(t, "RewriteAt: "+c.what, impl.RewriteAt(c.s, c.rules, number, 0, c.term), impl.TermResult{Code: c.code})
			mustBe(t, "RewriteAt: "+c.what, impl.RewriteAt(c.s, c.rules, 0, number, c.term), impl.TermResult{Code: c.code})
			mustBe(t, "NormalForm: "+c.what, impl.NormalForm(c.s, c.rules, c.term, number), impl.NormalResult{Code: c.code})
			mustBe(t, "AreJoined: "+c.what, impl.AreJoined(c.s, c.rules, c.term, []int64{9}, number), impl.IntResult{Code: c.code})
		}
		checkRewriting(t, c.s, c.rules, c.term, edgeFuels...)
		checkRewrittenEverywhere(t, c.s, c.rules, c.term)
	}
}

func TestIsNormalWhereTheSignaturesFaultIsErrNone(t *testing.T) {
	// By the words of the document IsNormal asks what FindRedex tells alone: there this fault is the same code as that of a term that is normal.
	mustBe(t, "FindRedex without a constant", impl.FindRedex(noConstants(), nil, []int64{0, -1}), impl.RedexResult{Code: impl.ErrNone})
	mustBe(t, "IsNormal without a constant", impl.IsNormal(noConstants(), nil, []int64{0, -1}), true)
	mustBe(t, "NormalForm without a constant", impl.NormalForm(noConstants(), nil, []int64{0, -1}, 9), impl.NormalResult{Code: impl.ErrNone})
	mustBe(t, "AreJoined without a constant", impl.AreJoined(noConstants(), nil, []int64{0, -1}, []int64{0, -1}, 9), impl.IntResult{Code: impl.ErrNone})
	mustBe(t, "RewriteAt without a constant", impl.RewriteAt(noConstants(), nil, 0, 0, []int64{0, -1}), impl.TermResult{Code: impl.ErrNone})
}

// rewritingRules are lists of rules, and such as are none.
func rewritingRules() [][]impl.Equation {
	return slices.Concat(someRules(), [][]impl.Equation{
		groupLaws(), laws("i(A)=A", "m(A,A)=A"), laws("e=a", "a=e"), laws("a=i(a)"), laws("A=e"), laws("e=A"), laws("m(A,B)=m(B,A)"), slices.Repeat(laws("i(A)=m(A,A)"), 12), slices.Repeat(laws("a=e"), 13),
		{equation([]int64{0}, nil)}, {equation(nil, []int64{0})}, laws("A=e", "i(G)=e"),
	})
}

func TestRewritingOfWhateverLists(t *testing.T) {
	for _, s := range fewSignatures() {
		for i, rules := range rewritingRules() {
			for j, term := range someTerms() {
				checkRewriting(t, s, rules, term, edgeFuels[(i+j)%len(edgeFuels)])
				other := someTerms()[(3*j+1)%len(someTerms())]
				checkJoined(t, s, rules, term, other, edgeFuels[(j+1)%len(edgeFuels)], 3)
			}
		}
	}
	for _, s := range allSignatures() {
		checkRewriting(t, s, nil, []int64{0}, edgeFuels...)
		checkRewriting(t, s, []impl.Equation{equation([]int64{0}, []int64{0})}, []int64{0}, edgeFuels...)
		checkJoined(t, s, nil, []int64{0}, []int64{-1}, edgeFuels...)
	}
	for i, term := range longLists() {
		for _, rules := range [][]impl.Equation{laws("i(A)=A", "m(A,B)=B"), laws("a=e"), laws("m(A,B)=m(B,A)"), {equation(leftComb(11), chain(24))}, laws("A=e")} {
			checkRewriting(t, exampleSignature(), rules, term, 0, 24)
			checkRewrittenEverywhere(t, exampleSignature(), rules, term)
			checkJoined(t, exampleSignature(), rules, term, longLists()[(i+1)%len(longLists())], 24)
		}
	}
	for _, node := range edgeNodes {
		checkRewriting(t, exampleSignature(), laws("i(A)=A"), []int64{1, node}, 0, 1)
		checkRewriting(t, exampleSignature(), []impl.Equation{equation([]int64{1, node}, []int64{node})}, read("m(i(e),i(A))"), 0, 1, 2)
		checkRewriting(t, exampleSignature(), []impl.Equation{equation([]int64{node}, []int64{0})}, read("m(i(a),i(A))"), 0, 1, 2)
	}
}

func TestRewritingByAllSmallRules(t *testing.T) {
	s, terms := exampleSignature(), ruleTerms(4, -1)
	for i, left := range ruleTerms(3, -1, -2) {
		for j, right := range ruleTerms(2, -1, -2) {
			rules := []impl.Equation{equation(left, right)}
			mustBe(t, fmt.Sprint("RulesFault of ", rules), impl.RulesFault(s, rules), wantRulesFault(s, rules))
			for k, term := range terms {
				checkRewriting(t, s, rules, term, int64((i+j+k)%5))
				if (i+j+k)%5 == 0 {
					checkRewrittenEverywhere(t, s, rules, term)
				}
			}
		}
	}
}

func TestRewritingInEverySignature(t *testing.T) {
	for _, s := range goodSignatures() {
		terms := slices.Concat(termsOver(s, []int64{-1}, 1), termsOver(s, []int64{-1}, 2), termsOver(s, []int64{-1}, 3))
		terms = terms[:min(len(terms), 20)]
		for i, left := range terms {
			rules := []impl.Equation{equation(left, terms[(7*i+3)%len(terms)])}
			for j, term := range terms {
				checkRewriting(t, s, rules, term, int64(j%4))
				checkRewrittenEverywhere(t, s, rules, term)
			}
		}
	}
}

// rule makes a rule over the crowd's symbols whose Right has no variable that its Left has not.
func (r *numbersByRule) rule(leftSize int, rightSize int) impl.Equation {
	left, right := r.crowdTerm(leftSize, 3), r.crowdTerm(rightSize, 3)
	for place, node := range right {
		if node < 0 && !slices.Contains(left, node) {
			right[place] = 2
		}
	}
	return equation(left, right)
}

// rules makes so many rules, small ones on the left so that they fit often.
func (r *numbersByRule) rules(count int) []impl.Equation {
	list := []impl.Equation{}
	for range count {
		list = append(list, r.rule(2+r.below(3), 1+r.below(5)))
	}
	return list
}

func TestRewritingOfManyTerms(t *testing.T) {
	s, numbers, codes, rewritten := crowd(), numbersByRule(81), map[int64]int{}, map[int64]int{}
	for range 800 {
		rules, term := numbers.rules(1+numbers.below(5)), numbers.crowdTerm(1+numbers.below(24), numbers.below(4))
		fuel := int64(numbers.below(12))
		checkRewriting(t, s, rules, term, fuel)
		checkJoined(t, s, rules, term, numbers.crowdTerm(1+numbers.below(12), numbers.below(3)), fuel)
		codes[impl.NormalForm(s, rules, term, fuel).Code]++
		number := int64(numbers.below(len(rules)))
		for place := range int64(len(term)) {
			got := impl.RewriteAt(s, rules, number, place, term)
			mustBe(t, fmt.Sprintf("RewriteAt %d of %v by %d of %v", place, term, number, rules), got, wantRewritten(s, rules, number, place, term))
			rewritten[got.Code]++
		}
	}
	for range 12 {
		checkRewriting(t, s, numbers.rules(4), numbers.crowdTerm(1+numbers.below(24), 2), 200)
	}
	for _, code := range []int64{impl.OK, impl.ErrFuel, impl.ErrMany} {
		if codes[code] < 100 {
			t.Errorf("NormalForm told the codes %v", codes)
		}
	}
	for _, code := range []int64{impl.OK, impl.ErrNone, impl.ErrMany} {
		if rewritten[code] < 50 {
			t.Errorf("RewriteAt told the codes %v", rewritten)
		}
	}
}

// mustFitNowhere asks of each of these rules at each of these places, by RewriteAt, that it does not fit.
func mustFitNowhere(t *testing.T, s impl.Signature, rules []impl.Equation, term []int64, places ...int64) {
	t.Helper()
	for _, place := range places {
		for number := range rules {
			if impl.RewriteAt(s, rules, int64(number), place, term).Code != impl.ErrNone {
				t.Errorf("the rule %d of %v fits at %d of %v", number, rules, place, term)
			}
		}
	}
}

func TestP9WhereSomethingCanBeRewrittenNothingInsideOfItCanBe(t *testing.T) {
	s, numbers, found, inside := crowd(), numbersByRule(91), 0, 0
	for range 3000 {
		rules, term := numbers.rules(1+numbers.below(4)), numbers.crowdTerm(1+numbers.below(24), numbers.below(3))
		redex := impl.FindRedex(s, rules, term)
		if redex.Code == impl.ErrNone {
			for place := range term {
				mustFitNowhere(t, s, rules, term, int64(place))
			}
			continue
		}
		found++
		mustBe(t, "the code of FindRedex", redex.Code, int64(impl.OK))
		end := redex.Place + int64(len(wantSubterm(s, term, redex.Place).Term))
		for place := redex.Place + 1; place < end; place++ {
			inside++
			mustFitNowhere(t, s, rules, term, place)
			mustBe(t, fmt.Sprintf("IsNormal of the part at %d of %v, inside of that at %d, by %v", place, term, redex.Place, rules), impl.IsNormal(s, rules, wantSubterm(s, term, place).Term), true)
		}
		for place := range term {
			if place+len(wantSubterm(s, term, int64(place)).Term) < int(end) {
				mustFitNowhere(t, s, rules, term, int64(place))
			}
		}
		mustFitNowhere(t, s, rules[:redex.Rule], term, redex.Place)
		if code := impl.RewriteAt(s, rules, redex.Rule, redex.Place, term).Code; code != impl.OK && code != impl.ErrMany {
			t.Errorf("RewriteAt tells %d at the redex %v of %v by %v", code, redex, term, rules)
		}
	}
	if found < 500 || inside < 500 {
		t.Errorf("only %d redexes were asked, with %d places inside", found, inside)
	}
}

// stepped does so many steps by FindRedex and RewriteAt, and tells whether there were so many.
func stepped(s impl.Signature, rules []impl.Equation, term []int64, steps int64) ([]int64, bool) {
	for range steps {
		redex := impl.FindRedex(s, rules, term)
		next := impl.RewriteAt(s, rules, redex.Rule, redex.Place, term)
		if redex.Code != impl.OK || next.Code != impl.OK {
			return term, false
		}
		term = next.Term
	}
	return term, true
}

// mustBeJustEnough asks, of a normal form that was told, whether it is normal, whether those steps lead to it, and whether no fewer are enough.
func mustBeJustEnough(t *testing.T, s impl.Signature, rules []impl.Equation, term []int64, told impl.NormalResult) {
	t.Helper()
	who := fmt.Sprintf("of %v by %v", term, rules)
	mustBe(t, "IsNormal of the normal form "+who, impl.IsNormal(s, rules, told.Term), true)
	mustBe(t, "FindRedex of the normal form "+who, impl.FindRedex(s, rules, told.Term), impl.RedexResult{Code: impl.ErrNone})
	mustBe(t, "NormalForm of the normal form "+who, impl.NormalForm(s, rules, told.Term, 0), impl.NormalResult{Term: told.Term})
	end, whole := stepped(s, rules, term, told.Steps)
	mustBe(t, "whether there were as many steps as told "+who, whole, true)
	mustBe(t, "the term behind as many steps as told "+who, end, told.Term)
	for _, fuel := range []int64{told.Steps, told.Steps + 1, 200} {
		mustBe(t, fmt.Sprint("NormalForm with ", fuel, " ", who), impl.NormalForm(s, rules, term, fuel), told)
	}
	for fuel := range told.Steps {
		mustBe(t, fmt.Sprint("NormalForm with ", fuel, " ", who), impl.NormalForm(s, rules, term, fuel), impl.NormalResult{Code: impl.ErrFuel})
	}
	mustBe(t, "AreJoined "+who+" and its normal form", impl.AreJoined(s, rules, term, told.Term, told.Steps), impl.IntResult{Value: 1})
}

func TestP9WhatIsToldAsNormalFormIsNormalAndTheStepsAreJustEnough(t *testing.T) {
	s, numbers, steps := crowd(), numbersByRule(101), map[int64]int{}
	for range 2500 {
		rules, term := numbers.rules(1+numbers.below(4)), numbers.crowdTerm(1+numbers.below(24), numbers.below(3))
		told := impl.NormalForm(s, rules, term, 150)
		if told.Code == impl.OK {
			mustBeJustEnough(t, s, rules, term, told)
			steps[min(told.Steps, 3)]++
		}
	}
	for _, count := range []int64{0, 1, 2, 3} {
		if steps[count] < 100 {
			t.Errorf("terms by the steps to their normal forms: %v", steps)
		}
	}
	for range 300 {
		term := numbers.term(1+numbers.below(24), 3)
		if told := impl.NormalForm(exampleSignature(), groupLaws(), term, 150); told.Code == impl.OK {
			mustBeJustEnough(t, exampleSignature(), groupLaws(), term, told)
		}
	}
	for _, count := range []int{0, 1, 57, 150, 199} {
		mustBeJustEnough(t, letters(), swaps(), wordOf(count), impl.NormalForm(letters(), swaps(), wordOf(count), 200))
	}
}

// fallingRules makes rules by turning small equations so that they fall.
func (r *numbersByRule) fallingRules(s impl.Signature, order []int64, count int) []impl.Equation {
	list := []impl.Equation{}
	for len(list) < count {
		oriented := impl.OrientEquation(s, order, equation(r.crowdTerm(1+r.below(4), 3), r.crowdTerm(1+r.below(5), 3)))
		if oriented.Code == impl.OK {
			list = append(list, oriented.Equation)
		}
	}
	return list
}

func TestP9ByRulesThatFallEachStepMakesTheTermLess(t *testing.T) {
	s, numbers, orders, steps := crowd(), numbersByRule(111), permutations(6), 0
	for range 1500 {
		order := orders[numbers.below(len(orders))]
		rules, term := numbers.fallingRules(s, order, 1+numbers.below(4)), numbers.crowdTerm(1+numbers.below(24), numbers.below(3))
		mustBe(t, fmt.Sprint("RulesFault of ", rules), impl.RulesFault(s, rules), int64(impl.OK))
		mustBe(t, fmt.Sprint("IsDecreasing of ", rules), impl.IsDecreasing(s, order, rules), true)
		for number := range rules {
			for place := range term {
				next := impl.RewriteAt(s, rules, int64(number), int64(place), term)
				if next.Code == impl.ErrNone || next.Code == impl.ErrMany {
					continue
				}
				steps++
				mustBe(t, fmt.Sprintf("CompareTerms of %v and what the rule %v makes of it at %d by %v", term, rules[number], place, order), impl.CompareTerms(s, order, term, next.Term), impl.IntResult{Value: impl.Greater})
			}
		}
		told := impl.NormalForm(s, rules, term, 200)
		want := impl.IntResult{Value: impl.Greater}
		if told.Steps == 0 {
			want.Value = impl.Same
		}
		if told.Code == impl.OK {
			mustBe(t, fmt.Sprintf("CompareTerms of %v and its normal form by %v, by %v", term, rules, order), impl.CompareTerms(s, order, term, told.Term), want)
		}
	}
	if steps < 2000 {
		t.Errorf("only %d steps were asked", steps)
	}
}

func TestP9WhatIsOrientedFalls(t *testing.T) {
	s, terms, oriented := exampleSignature(), ruleTerms(3, -1, -2), 0
	for _, order := range [][]int64{documentOrder, lowConstants, {3, 2, 1, 0}} {
		for _, a := range terms {
			for _, b := range terms {
				e := impl.OrientEquation(s, order, equation(a, b))
				if e.Code != impl.OK {
					continue
				}
				oriented++
				rules := []impl.Equation{e.Equation}
				mustBe(t, fmt.Sprintf("IsDecreasing of %v by %v", rules, order), impl.IsDecreasing(s, order, rules), true)
				mustBe(t, fmt.Sprintf("RulesFault of %v", rules), impl.RulesFault(s, rules), int64(impl.OK))
				mustBe(t, fmt.Sprintf("what is made of the Left of %v", rules), impl.RewriteAt(s, rules, 0, 0, e.Equation.Left), impl.TermResult{Term: e.Equation.Right})
				mustBe(t, fmt.Sprintf("IsNormal of the Left of %v", rules), impl.IsNormal(s, rules, e.Equation.Left), false)
			}
		}
	}
	if oriented < 900 {
		t.Errorf("only %d equations were oriented", oriented)
	}
}

// rewriteAnswers calls every function of the chapter with whatever of the arguments it takes.
func rewriteAnswers(s impl.Signature, rules []impl.Equation, a []int64, b []int64, number int64) []any {
	return []any{
		impl.RulesFault(s, rules), impl.FindRedex(s, rules, a), impl.RewriteAt(s, rules, number, 0, a), impl.RewriteAt(s, rules, 0, number, a),
		impl.NormalForm(s, rules, a, number), impl.IsNormal(s, rules, a), impl.AreJoined(s, rules, a, b, number), impl.AreJoined(s, rules, a, b, 9),
	}
}

// guardedRules is a list of rules all of whose sides lie in greater lists, as it does itself.
type guardedRules struct {
	sides []guarded[int64]
	whole []impl.Equation
	list  []impl.Equation
}

func guardRules(rules []impl.Equation) guardedRules {
	g := guardedRules{}
	for _, rule := range rules {
		left, right := guardNumbers(rule.Left), guardNumbers(rule.Right)
		g.sides, g.whole = append(g.sides, left, right), append(g.whole, equation(left.list, right.list))
	}
	g.whole = append(g.whole, equation([]int64{guardNumber}, nil))
	g.list = g.whole[:len(rules)]
	return g
}

func (g guardedRules) mustBeUnchanged(t *testing.T, who string) {
	t.Helper()
	for place, inside := range g.sides {
		inside.mustBeUnchanged(t, who)
		rule := g.whole[place/2]
		mustBe(t, who+": a side of its rules", [][]int64{rule.Left, rule.Right}[place%2], inside.list)
	}
	mustBe(t, who+": what is behind its rules", g.whole[len(g.whole)-1], equation([]int64{guardNumber}, nil))
}

func (g guardedRules) overwrite() {
	for _, inside := range g.sides {
		overwriteNumbers(inside.whole)
	}
	clear(g.whole)
}

func TestP1RewriteAnswersHangOnTheArgumentsAlone(t *testing.T) {
	all := rewritingRules()
	for i, s := range fewSignatures() {
		for j, a := range someTerms() {
			for k, b := range someTerms() {
				rules, number := all[(i+3*j+5*k)%len(all)], edgeFuels[(i+j+7*k)%len(edgeFuels)]
				first := rewriteAnswers(s, rules, a, b, number)
				rewriteAnswers(exampleSignature(), laws("m(e,A)=A", "a=e"), read("m(e,i(a))"), read("m(e,m(e,a))"), 7)
				mustBe(t, "the same call again", rewriteAnswers(s, rules, a, b, number), first)
				again := rewriteAnswers(signature(guardSymbols(s.Symbols).list...), guardRules(rules).list, guardNumbers(a).list, guardNumbers(b).list, number)
				mustBe(t, "the same call with other memory", again, first)
			}
		}
	}
}

func TestP1EveryRuleAndPlaceAndFuelIsAnswered(t *testing.T) {
	for _, s := range fewSignatures() {
		for i, rules := range rewritingRules() {
			for j, number := range slices.Concat(edgeNodes, edgeFuels) {
				term := someTerms()[(i+j)%len(someTerms())]
				first := rewriteAnswers(s, rules, term, []int64{0}, number)
				mustBe(t, "the same call again", rewriteAnswers(s, rules, term, []int64{0}, number), first)
			}
		}
	}
}

func TestP1NilAndEmptyRulesAreTheSame(t *testing.T) {
	none := []int64{}
	for _, s := range fewSignatures() {
		for _, number := range edgeFuels {
			mustBe(t, "empty lists", rewriteAnswers(s, []impl.Equation{}, none, none, number), rewriteAnswers(s, nil, nil, nil, number))
			mustBe(t, "empty sides", rewriteAnswers(s, []impl.Equation{equation(none, none)}, []int64{0}, none, number), rewriteAnswers(s, []impl.Equation{{}}, []int64{0}, nil, number))
			mustBe(t, "an empty right side", rewriteAnswers(s, []impl.Equation{equation([]int64{0}, none)}, []int64{0}, none, number), rewriteAnswers(s, []impl.Equation{equation([]int64{0}, nil)}, []int64{0}, nil, number))
			for _, term := range someTerms() {
				mustBe(t, "no rules and a term", rewriteAnswers(s, []impl.Equation{}, term, none, number), rewriteAnswers(s, nil, term, nil, number))
				mustBe(t, "no term and another one", rewriteAnswers(s, laws("a=e"), none, term, number), rewriteAnswers(s, laws("a=e"), nil, term, number))
			}
		}
	}
	mustBe(t, "an empty signature", rewriteAnswers(signature([]impl.Symbol{}...), nil, []int64{0}, []int64{0}, 1), rewriteAnswers(impl.Signature{}, nil, []int64{0}, []int64{0}, 1))
}

func TestP1RewriteArgumentsAreNotChanged(t *testing.T) {
	terms := slices.Concat(someTerms(), [][]int64{read("m(e,m(e,i(i(a))))"), read("m(i(a),m(A,A))"), read("i(m(i(A),i(B)))")})
	for i, rules := range rewritingRules() {
		for j, a := range terms {
			for k, b := range terms {
				symbols, given, first, second := guardSymbols(exampleSignature().Symbols), guardRules(rules), guardNumbers(a), guardNumbers(b)
				for _, number := range []int64{0, int64((i + j + k) % 5), 20} {
					rewriteAnswers(signature(symbols.list...), given.list, first.list, second.list, number)
				}
				symbols.mustBeUnchanged(t, "a function of rewriting")
				given.mustBeUnchanged(t, "a function of rewriting")
				first.mustBeUnchanged(t, "a function of rewriting")
				second.mustBeUnchanged(t, "a function of rewriting")
			}
		}
	}
}

// checkNewTerm overwrites answers of one call, then its arguments, and holds the rest against what was asked for.
func checkNewTerm(t *testing.T, who string, want []int64, ask func() []int64, given guardedRules, term guarded[int64]) {
	t.Helper()
	checkNewNumbers(t, who, want, ask)
	kept := ask()
	given.mustBeUnchanged(t, "who overwrote the answer of "+who)
	term.mustBeUnchanged(t, "who overwrote the answer of "+who)
	given.overwrite()
	overwriteNumbers(term.whole)
	mustBe(t, who+" of arguments that were overwritten", kept, want)
}

func TestP1RewrittenTermsAreNewMemory(t *testing.T) {
	s := exampleSignature()
	for _, rules := range [][]impl.Equation{nil, groupLaws(), laws("a=e", "i(i(A))=A"), laws("m(A,B)=A", "i(A)=a"), laws("m(A,B)=m(B,A)", "i(A)=i(A)"), laws("e=i(a)")} {
		for _, term := range slices.Concat(ruleTerms(4, -1, -2), [][]int64{read("m(e,m(i(i(a)),i(e)))"), fullComb()}) {
			for number := range int64(len(rules)) {
				for place := range int64(len(term)) {
					want := wantRewritten(s, rules, number, place, term)
					if want.Code == impl.OK {
						given, whole := guardRules(rules), guardNumbers(term)
						checkNewTerm(t, "RewriteAt", want.Term, func() []int64 { return impl.RewriteAt(s, given.list, number, place, whole.list).Term }, given, whole)
					}
				}
			}
			want := wantNormal(s, rules, term, 20)
			if want.Code == impl.OK {
				given, whole := guardRules(rules), guardNumbers(term)
				checkNewTerm(t, "NormalForm", slices.Clone(want.Term), func() []int64 { return impl.NormalForm(s, given.list, whole.list, 20).Term }, given, whole)
			}
		}
	}
}

func TestP1RewritingOfListsThatShareMemory(t *testing.T) {
	s := exampleSignature()
	for _, term := range append(smallTerms(3), read("i(m(i(A),B))"), read("m(m(A,B),m(B,A))"), fullComb()) {
		for place := range term {
			given := guardNumbers(term)
			part := given.list[place : place+len(wantSubterm(s, term, int64(place)).Term)]
			for _, rules := range [][]impl.Equation{{equation(given.list, part)}, {equation(part, given.list)}, {equation(given.list, given.list)}, laws("m(A,B)=A")} {
				checkRewriting(t, s, rules, given.list, 0, 3)
				checkRewriting(t, s, rules, part, 0, 3)
				checkRewrittenEverywhere(t, s, rules, given.list)
				checkJoined(t, s, rules, given.list, part, 2)
				checkJoined(t, s, rules, part, given.list, 2)
			}
			rules := []impl.Equation{equation(given.list, part)}
			for _, answer := range [][]int64{impl.RewriteAt(s, rules, 0, 0, given.list).Term, impl.NormalForm(s, rules, given.list, 1).Term, impl.NormalForm(s, rules, part, 0).Term} {
				overwriteNumbers(answer)
			}
			given.mustBeUnchanged(t, "a function of rewriting of lists that share memory, or who overwrote its answer,")
		}
	}
}

func TestRewritingIsNotLedBehindTheEndBySpareRoom(t *testing.T) {
	s, whole, left, rules := exampleSignature(), read("m(i(A),m(B,e))"), read("m(i(A),A)"), laws("i(A)=A", "A=e", "m(A,e)=A")
	for end := range whole {
		checkRewriting(t, s, laws("i(A)=A"), whole[:end], 0, 3)
		checkRewrittenEverywhere(t, s, laws("i(A)=A"), whole[:end])
		checkJoined(t, s, laws("i(A)=A"), read("a"), whole[:end], 3)
	}
	for end := range left {
		checkRewriting(t, s, []impl.Equation{equation(left[:end], []int64{0})}, whole, 0, 3)
		checkRewriting(t, s, []impl.Equation{equation(left, left[:end])}, whole, 0, 3)
	}
	for end := range 3 {
		checkRewriting(t, s, rules[:end], read("m(i(a),e)"), 0, 3)
		checkRewrittenEverywhere(t, s, rules[:end], read("m(i(a),e)"))
	}
}

func TestP1NothingIsKeptOfRulesOrTerms(t *testing.T) {
	s, rules, term := exampleSignature(), laws("m(e,A)=A", "i(A)=e"), read("m(e,i(a))")
	rewriteAnswers(s, rules, term, term, 1)
	copy(rules[0].Left, read("m(a,A)"))
	mustBe(t, "FindRedex by the new rule", impl.FindRedex(s, rules, term), impl.RedexResult{Place: 2, Rule: 1})
	mustBe(t, "RewriteAt by the new rule", impl.RewriteAt(s, rules, 0, 0, term), impl.TermResult{Code: impl.ErrNone})
	rules[1] = law("m(A,B)=i(B)")
	mustBe(t, "NormalForm by the new rules", impl.NormalForm(s, rules, term, 9), impl.NormalResult{Term: read("i(i(a))"), Steps: 1})
	mustBe(t, "AreJoined by the new rules", impl.AreJoined(s, rules, term, read("e"), 9), impl.IntResult{})
	copy(term, read("m(a,i(e))"))
	mustBe(t, "NormalForm of the new term", impl.NormalForm(s, rules, term, 9), impl.NormalResult{Term: read("i(e)"), Steps: 1})
	rules[1].Left[0] = -1
	mustBe(t, "RulesFault of the new Left", impl.RulesFault(s, rules), int64(impl.ErrForm))
	rules = rules[:1]
	s.Symbols[2] = impl.Symbol{Name: "m", Arity: 1}
	mustBe(t, "RulesFault by the new arity", impl.RulesFault(s, rules), int64(impl.ErrForm))
	mustBe(t, "IsNormal by the new arity", impl.IsNormal(s, nil, term), false)
	mustBe(t, "IsNormal of another term by the new arity", impl.IsNormal(s, nil, []int64{2, 3}), true)
}
