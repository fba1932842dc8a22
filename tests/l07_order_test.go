package tests

import (
	"fmt"
	"slices"
	"strings"
	"testing"
	"time"

	"loop.example/g00653/impl"
)

// aboveAsker is the tests' own way to tell which tree is above which, case by case as the document tells it; it keeps by the trees' nodes what was asked.
type aboveAsker struct {
	order []int64
	known map[[2]string]bool
}

func treeKey(whole tree) string {
	key := string(rune('a' + whole.node))
	for _, argument := range whole.arguments {
		key += treeKey(argument)
	}
	return key
}

func (q aboveAsker) above(a tree, b tree) bool {
	key := [2]string{treeKey(a), treeKey(b)}
	answer, asked := q.known[key]
	if !asked {
		answer = q.byVariable(a, b) || q.byArgument(a, b) || q.byHigherSymbol(a, b) || q.bySameSymbol(a, b)
		q.known[key] = answer
	}
	return answer
}

func bothBeginWithASymbol(a tree, b tree) bool {
	return !isKnownVariable(a.node) && !isKnownVariable(b.node)
}

func (q aboveAsker) byVariable(a tree, b tree) bool {
	return isKnownVariable(b.node) && slices.Contains(nodesOf(a), b.node) && !sameTrees(a, b)
}

func (q aboveAsker) byArgument(a tree, b tree) bool {
	return bothBeginWithASymbol(a, b) && slices.ContainsFunc(a.arguments, func(argument tree) bool { return sameTrees(argument, b) || q.above(argument, b) })
}

func (q aboveAsker) aboveAllArguments(a tree, b tree) bool {
	return !slices.ContainsFunc(b.arguments, func(argument tree) bool { return !q.above(a, argument) })
}

func (q aboveAsker) byHigherSymbol(a tree, b tree) bool {
	return bothBeginWithASymbol(a, b) && slices.Index(q.order, a.node) > slices.Index(q.order, b.node) && q.aboveAllArguments(a, b)
}

func (q aboveAsker) bySameSymbol(a tree, b tree) bool {
	if !bothBeginWithASymbol(a, b) || a.node != b.node || !q.aboveAllArguments(a, b) {
		return false
	}
	for place := range a.arguments {
		if !sameTrees(a.arguments[place], b.arguments[place]) {
			return q.above(a.arguments[place], b.arguments[place])
		}
	}
	return false
}

func newAsker(order []int64) aboveAsker {
	return aboveAsker{order, map[[2]string]bool{}}
}

func wantAbove(s impl.Signature, order []int64, a []int64, b []int64) bool {
	return newAsker(order).above(wholeTree(s, a), wholeTree(s, b))
}

func wantOrderedFault(s impl.Signature, order []int64, a []int64, b []int64) int64 {
	if code := wantOrderFault(s, order); code != impl.OK {
		return code
	}
	return wantPairFault(s, a, b)
}

func wantCompare(s impl.Signature, order []int64, a []int64, b []int64) impl.IntResult {
	if code := wantOrderedFault(s, order, a, b); code != impl.OK {
		return impl.IntResult{Code: code}
	}
	switch {
	case slices.Equal(a, b):
		return impl.IntResult{Value: 3}
	case wantAbove(s, order, a, b):
		return impl.IntResult{Value: 1}
	case wantAbove(s, order, b, a):
		return impl.IntResult{Value: 2}
	}
	return impl.IntResult{Value: 0}
}

func wantOriented(s impl.Signature, order []int64, e impl.Equation) impl.EquationResult {
	if code := wantOrderedFault(s, order, e.Left, e.Right); code != impl.OK {
		return impl.EquationResult{Code: code}
	}
	if wantAbove(s, order, e.Left, e.Right) {
		return impl.EquationResult{Equation: e}
	}
	if wantAbove(s, order, e.Right, e.Left) {
		return impl.EquationResult{Equation: equation(e.Right, e.Left)}
	}
	return impl.EquationResult{Code: impl.ErrOrder}
}

func wantDecreasing(s impl.Signature, order []int64, rules []impl.Equation) bool {
	if wantOrderFault(s, order) != impl.OK || wantEquationsFault(s, rules) != impl.OK {
		return false
	}
	return !slices.ContainsFunc(rules, func(rule impl.Equation) bool { return !wantAbove(s, order, rule.Left, rule.Right) })
}

func wantRowFault(s impl.Signature, order []int64, list [][]int64) int64 {
	if code := wantOrderFault(s, order); code != impl.OK {
		return code
	}
	if len(list) > 12 {
		return impl.ErrMany
	}
	for _, term := range list {
		if code := wantTermFault(s, term); code != impl.OK {
			return code
		}
		if slices.Min(term) < 0 {
			return impl.ErrForm
		}
	}
	return impl.OK
}

// wantSorted puts each term ahead of the first one that is above it.
func wantSorted(s impl.Signature, order []int64, list [][]int64) impl.TermsResult {
	if code := wantRowFault(s, order, list); code != impl.OK {
		return impl.TermsResult{Code: code}
	}
	sorted := [][]int64{}
	for _, term := range list {
		place := slices.IndexFunc(sorted, func(other []int64) bool { return wantAbove(s, order, other, term) })
		if place < 0 {
			place = len(sorted)
		}
		sorted = slices.Insert(sorted, place, term)
	}
	return impl.TermsResult{Terms: sorted}
}

func wantGreatest(s impl.Signature, order []int64, list [][]int64) impl.IntResult {
	sorted := wantSorted(s, order, list)
	if sorted.Code != impl.OK {
		return impl.IntResult{Code: sorted.Code}
	}
	if len(list) == 0 {
		return impl.IntResult{Code: impl.ErrNone}
	}
	last := sorted.Terms[len(list)-1]
	return impl.IntResult{Value: int64(slices.IndexFunc(list, func(term []int64) bool { return slices.Equal(term, last) }))}
}

// mustBeTerms takes an empty list and nil as the same value, as the document does.
func mustBeTerms(t *testing.T, who string, got, want impl.TermsResult) {
	t.Helper()
	if got.Code != want.Code || !slices.EqualFunc(got.Terms, want.Terms, slices.Equal[[]int64]) {
		t.Errorf("%s: got %+v, want %+v", who, got, want)
	}
}

// checkOrderedPair asks all that is asked of two terms.
func checkOrderedPair(t *testing.T, s impl.Signature, order []int64, a []int64, b []int64) {
	t.Helper()
	who := fmt.Sprintf("of %s and %s by %s in %.60v", brief(a), brief(b), brief(order), s)
	mustBe(t, "CompareTerms "+who, impl.CompareTerms(s, order, a, b), wantCompare(s, order, a, b))
	mustBe(t, "OrientEquation "+who, impl.OrientEquation(s, order, equation(a, b)), wantOriented(s, order, equation(a, b)))
	mustBe(t, "IsDecreasing "+who, impl.IsDecreasing(s, order, []impl.Equation{equation(a, b)}), wantDecreasing(s, order, []impl.Equation{equation(a, b)}))
}

// checkRow asks all that is asked of a list of terms.
func checkRow(t *testing.T, s impl.Signature, order []int64, list [][]int64) {
	t.Helper()
	who := fmt.Sprintf("of %.200v by %s in %.60v", list, brief(order), s)
	mustBeTerms(t, "SortTerms "+who, impl.SortTerms(s, order, list), wantSorted(s, order, list))
	mustBe(t, "GreatestOf "+who, impl.GreatestOf(s, order, list), wantGreatest(s, order, list))
}

// The document's precedence: e, i, m, a; and one in which both constants are the lowest ones.
var documentOrder = []int64{0, 1, 2, 3}
var lowConstants = []int64{0, 3, 1, 2}

// crowd has two symbols of each arity, so that the terms of each form are many.
func crowd() impl.Signature {
	return signature(impl.Symbol{Name: "f", Arity: 2}, impl.Symbol{Name: "g", Arity: 1}, impl.Symbol{Name: "c"}, impl.Symbol{Name: "h", Arity: 2}, impl.Symbol{Name: "k", Arity: 1}, impl.Symbol{Name: "d"})
}

func TestBoundsOfTheOrderAreThoseOfTheDocument(t *testing.T) {
	mustBe(t, "Beside", impl.Beside, 0)
	mustBe(t, "Greater", impl.Greater, 1)
	mustBe(t, "Less", impl.Less, 2)
	mustBe(t, "Same", impl.Same, 3)
	mustBe(t, "MaxSort", impl.MaxSort, 12)
}

// turnedRelation is what is told when both are given the other way round.
func turnedRelation(relation int64) int64 {
	return []int64{impl.Beside, impl.Less, impl.Greater, impl.Same}[relation]
}

func TestCompareTermsKnownValues(t *testing.T) {
	for _, c := range []struct {
		what  string
		order []int64
		a, b  string
		want  int64
	}{
		{"the document's example of a variable", documentOrder, "m(e,A)", "A", impl.Greater},
		{"the document's example of two variables", documentOrder, "i(A)", "i(B)", impl.Beside},
		{"a variable and itself", documentOrder, "A", "A", impl.Same},
		{"the last variable and itself", documentOrder, "L", "L", impl.Same},
		{"two variables", documentOrder, "A", "B", impl.Beside},
		{"a variable and a term that it is in", documentOrder, "A", "i(A)", impl.Less},
		{"a variable and a term that it is in twice", documentOrder, "A", "m(A,A)", impl.Less},
		{"a variable and a term that it is deep in", documentOrder, "L", "m(e,m(i(m(a,L)),B))", impl.Less},
		{"a variable and a term that it is not in", documentOrder, "A", "m(B,i(C))", impl.Beside},
		{"a variable and the lowest constant", documentOrder, "A", "e", impl.Beside},
		{"a variable and the highest constant", documentOrder, "A", "a", impl.Beside},
		{"a constant and itself", documentOrder, "a", "a", impl.Same},
		{"two constants", documentOrder, "a", "e", impl.Greater},
		{"two constants by another precedence", []int64{3, 1, 2, 0}, "a", "e", impl.Less},
		{"a great term and itself", documentOrder, "m(i(A),m(B,i(a)))", "m(i(A),m(B,i(a)))", impl.Same},
		{"case 1 alone, as an argument", documentOrder, "i(A)", "A", impl.Greater},
		{"case 1 alone, deep inside", documentOrder, "i(i(i(A)))", "A", impl.Greater},
		{"case 2 alone, an argument is the other one", documentOrder, "i(a)", "a", impl.Greater},
		{"case 2 alone, an argument is above the other one", documentOrder, "i(a)", "m(e,e)", impl.Greater},
		{"case 2 alone, the last argument is the other one", documentOrder, "m(e,a)", "a", impl.Greater},
		{"case 2 alone, the last argument is above the other one", documentOrder, "m(e,i(a))", "a", impl.Greater},
		{"case 2 alone, with the same symbol", documentOrder, "m(e,m(a,B))", "m(a,B)", impl.Greater},
		{"case 2 alone, above with the same symbol", lowConstants, "m(e,m(a,B))", "m(e,B)", impl.Greater},
		{"case 3 alone, of one argument", documentOrder, "m(e,e)", "i(e)", impl.Greater},
		{"case 3 alone, with variables", documentOrder, "m(A,B)", "i(A)", impl.Greater},
		{"case 3 alone, of no argument", documentOrder, "a", "m(e,e)", impl.Greater},
		{"case 3 alone, of two constants", lowConstants, "a", "e", impl.Greater},
		{"case 3 alone, a variable as both arguments", []int64{0, 3, 2, 1}, "i(A)", "m(A,A)", impl.Greater},
		{"case 3 fails at a variable", documentOrder, "m(A,A)", "i(B)", impl.Beside},
		{"case 3 fails at the last argument", []int64{0, 3, 2, 1}, "i(A)", "m(A,B)", impl.Beside},
		{"case 3 fails at the first argument", []int64{0, 3, 2, 1}, "i(A)", "m(B,A)", impl.Beside},
		{"case 3 fails at a higher constant", documentOrder, "m(e,e)", "i(a)", impl.Less},
		{"a lower symbol with the same arguments", documentOrder, "i(A)", "m(A,A)", impl.Less},
		{"case 4 alone, of one argument", lowConstants, "i(a)", "i(e)", impl.Greater},
		{"case 4 alone, at the first place", lowConstants, "m(a,e)", "m(e,a)", impl.Greater},
		{"case 4 alone, at the last place", lowConstants, "m(e,a)", "m(e,e)", impl.Greater},
		{"case 4 alone, at the last place, with variables", lowConstants, "m(A,i(B))", "m(A,B)", impl.Greater},
		{"case 4 alone, at the first place, the last one the other way", lowConstants, "m(a,e)", "m(e,i(a))", impl.Greater},
		{"case 4 alone, at a place in the middle", lowConstants, "m(e,m(i(a),a))", "m(e,m(i(e),i(a)))", impl.Greater},
		{"case 4 alone, both arguments above", lowConstants, "m(i(A),i(B))", "m(A,B)", impl.Greater},
		{"case 4 fails at the last argument", lowConstants, "m(i(A),e)", "m(A,B)", impl.Beside},
		{"case 4 fails at a higher constant", documentOrder, "m(i(e),e)", "m(e,a)", impl.Less},
		{"case 4 fails at the first place, the last one is above", lowConstants, "m(A,i(C))", "m(B,C)", impl.Beside},
		{"both sides of the law of brackets", documentOrder, "m(m(A,B),C)", "m(A,m(B,C))", impl.Greater},
		{"both sides of the law of turning", documentOrder, "m(A,B)", "m(B,A)", impl.Beside},
		{"turned arguments without variables", documentOrder, "m(a,e)", "m(e,a)", impl.Greater},
		{"what is turned round, i above m", []int64{0, 3, 2, 1}, "i(m(A,B))", "m(i(B),i(A))", impl.Greater},
		{"what is turned round, m above i", documentOrder, "i(m(A,B))", "m(i(B),i(A))", impl.Beside},
		{"a term and one with a variable more", documentOrder, "m(A,A)", "m(A,i(B))", impl.Beside},
		{"more of a variable, yet lower", []int64{0, 3, 2, 1}, "i(A)", "m(A,m(A,m(A,A)))", impl.Greater},
	} {
		s, a, b := exampleSignature(), read(c.a), read(c.b)
		mustBe(t, "CompareTerms of "+c.what, impl.CompareTerms(s, c.order, a, b), impl.IntResult{Value: c.want})
		mustBe(t, "CompareTerms, turned, of "+c.what, impl.CompareTerms(s, c.order, b, a), impl.IntResult{Value: turnedRelation(c.want)})
		checkOrderedPair(t, s, c.order, a, b)
		checkOrderedPair(t, s, c.order, b, a)
	}
}

// casesAlone tells which one of the four cases is so, if it is one alone.
func casesAlone(q aboveAsker, a tree, b tree) int {
	alone := 0
	for number, so := range []bool{q.byVariable(a, b), q.byArgument(a, b), q.byHigherSymbol(a, b), q.bySameSymbol(a, b)} {
		if so && alone != 0 {
			return 0
		}
		if so {
			alone = number + 1
		}
	}
	return alone
}

func TestCompareTermsOfEachCaseAlone(t *testing.T) {
	s, terms, met := exampleSignature(), ruleTerms(4, -1, -2), [5]int{}
	for _, order := range [][]int64{documentOrder, lowConstants} {
		q := newAsker(order)
		for _, a := range terms {
			for _, b := range terms {
				number := casesAlone(q, wholeTree(s, a), wholeTree(s, b))
				met[number]++
				if number > 0 && impl.CompareTerms(s, order, a, b) != (impl.IntResult{Value: impl.Greater}) {
					t.Errorf("%v is not above %v by %v, where case %d alone is so", a, b, order, number)
				}
			}
		}
	}
	for number, count := range met {
		if count == 0 {
			t.Errorf("case %d was never met alone", number)
		}
	}
}

func TestCompareTermsOfAllSmallTerms(t *testing.T) {
	s := exampleSignature()
	for _, order := range permutations(4) {
		for _, a := range ruleTerms(3, -1, -2) {
			for _, b := range ruleTerms(3, -1, -2) {
				checkOrderedPair(t, s, order, a, b)
			}
		}
	}
	for _, order := range [][]int64{documentOrder, lowConstants, {2, 1, 3, 0}} {
		for _, a := range ruleTerms(4, -1, -12) {
			for _, b := range ruleTerms(4, -1, -12) {
				checkOrderedPair(t, s, order, a, b)
			}
		}
	}
}

func TestCompareTermsInEverySignature(t *testing.T) {
	for _, s := range goodSignatures() {
		terms := slices.Concat(termsOver(s, []int64{-1, -2}, 1), termsOver(s, []int64{-1, -2}, 2), termsOver(s, []int64{-1, -2}, 3))
		terms = terms[:min(len(terms), 25)]
		orders := permutations(len(s.Symbols))
		for _, order := range [][]int64{orders[0], orders[len(orders)/2], orders[len(orders)-1]} {
			for _, a := range terms {
				for _, b := range terms {
					checkOrderedPair(t, s, order, a, b)
				}
			}
		}
	}
}

// crowdTerm makes a term of just so many nodes over the crowd's symbols and so many variables, or without one.
func (r *numbersByRule) crowdTerm(size int, variables int) []int64 {
	switch {
	case size == 1 && r.below(2) < variables:
		return []int64{int64(-1 - r.below(variables))}
	case size == 1:
		return []int64{[]int64{2, 5}[r.below(2)]}
	case size == 2 || r.below(3) == 0:
		return append([]int64{[]int64{1, 4}[r.below(2)]}, r.crowdTerm(size-1, variables)...)
	}
	first := 1 + r.below(size-2)
	return slices.Concat([]int64{[]int64{0, 3}[r.below(2)]}, r.crowdTerm(first, variables), r.crowdTerm(size-1-first, variables))
}

func TestCompareTermsOfManyTerms(t *testing.T) {
	s, numbers, orders, met := crowd(), numbersByRule(7), permutations(6), [4]int{}
	for range 2500 {
		order, variables := orders[numbers.below(len(orders))], numbers.below(4)
		a := numbers.crowdTerm(1+numbers.below(24), variables)
		b := numbers.crowdTerm(1+numbers.below(24), variables)
		if numbers.below(3) == 0 {
			at := numbers.below(len(a))
			b = wantReplaced(s, a, int64(at), numbers.crowdTerm(1+numbers.below(3), variables)).Term
		}
		if len(b) == 0 {
			continue
		}
		checkOrderedPair(t, s, order, a, b)
		met[wantCompare(s, order, a, b).Value]++
	}
	for relation, count := range met {
		if count < 50 {
			t.Errorf("the answer %d was met only %d times", relation, count)
		}
	}
}

// mustEndSoon waits longer than asking each pair of places once can take, and not nearly as long as asking without keeping would.
func mustEndSoon(t *testing.T, who string, ask func()) {
	t.Helper()
	ended := make(chan bool)
	go func() {
		ask()
		close(ended)
	}()
	select {
	case <-ended:
	case <-time.After(time.Minute):
		t.Fatalf("%s has not ended", who)
	}
}

// tower makes a great term of one form: these symbols again and again, one inside the other, up to that node.
func tower(symbols []int64, size int, bottom int64) []int64 {
	term := []int64{}
	for len(term) < size-1 {
		term = append(term, symbols[len(term)%len(symbols)])
	}
	return append(term, bottom)
}

func TestCompareTermsAsksEachPairOfPlacesOnce(t *testing.T) {
	s, order := crowd(), []int64{2, 5, 1, 4, 0, 3}
	great := [][]int64{}
	for _, symbols := range [][]int64{{1}, {4}, {1, 4}, {4, 1}, {1, 1, 4}, {4, 4, 1}} {
		for _, bottom := range []int64{-1, -2, 2, 5} {
			great = append(great, tower(symbols, 24, bottom), tower(symbols, 23, bottom), tower(symbols, 20, bottom))
		}
	}
	for _, bottom := range []int64{-1, -2, 5} {
		great = append(great, append(slices.Repeat([]int64{0, 2}, 11), bottom), append(slices.Repeat([]int64{3, -1}, 11), bottom),
			slices.Concat(slices.Repeat([]int64{0}, 11), []int64{bottom}, slices.Repeat([]int64{-1}, 11)), slices.Concat(slices.Repeat([]int64{3}, 11), []int64{bottom}, slices.Repeat([]int64{5}, 11)))
	}
	mustEndSoon(t, "comparing great terms of one form", func() {
		for _, a := range great {
			for _, b := range great {
				impl.CompareTerms(s, order, a, b)
			}
		}
	})
	for i, a := range great {
		for j, b := range great {
			if (i+j)%20 == 0 {
				mustBe(t, fmt.Sprint("CompareTerms of ", a, " and ", b), impl.CompareTerms(s, order, a, b), wantCompare(s, order, a, b))
			}
		}
	}
}

func TestOrderedTermsAskCodesInTheirOrder(t *testing.T) {
	s, noConstant := exampleSignature(), signature(impl.Symbol{Name: "i", Arity: 1})
	for _, c := range []struct {
		what  string
		s     impl.Signature
		order []int64
		a, b  []int64
		code  int64
	}{
		{"the signature ahead of the precedence", noConstant, nil, nil, nil, impl.ErrNone},
		{"no symbols at all", impl.Signature{}, nil, []int64{-1}, []int64{-1}, impl.ErrMany},
		{"two symbols of one name", signature(impl.Symbol{Name: "a"}, impl.Symbol{Name: "a"}), nil, nil, nil, impl.ErrTaken},
		{"a precedence too short ahead of the terms", s, []int64{0, 1, 2}, []int64{9}, []int64{1}, impl.ErrMany},
		{"a precedence too long ahead of the terms", s, []int64{0, 1, 2, 3, 0}, []int64{9}, []int64{1}, impl.ErrMany},
		{"no precedence", s, nil, []int64{9}, []int64{1}, impl.ErrMany},
		{"a number of a precedence ahead of the terms", s, []int64{0, 1, 2, 4}, nil, nil, impl.ErrRange},
		{"a number twice ahead of the terms", s, []int64{0, 1, 2, 2}, nil, nil, impl.ErrTaken},
		{"a number twice ahead of terms that are the same", s, []int64{0, 1, 2, 2}, []int64{0}, []int64{0}, impl.ErrTaken},
		{"the first term ahead of the second one", s, documentOrder, nil, []int64{9}, impl.ErrMany},
		{"the first term's node ahead of the second one", s, documentOrder, []int64{9}, nil, impl.ErrRange},
		{"the first term's form ahead of the second one", s, documentOrder, []int64{1}, nil, impl.ErrForm},
		{"one node more than MaxNodes in the first term", s, documentOrder, chain(25), []int64{9}, impl.ErrMany},
		{"no second term", s, documentOrder, []int64{0}, nil, impl.ErrMany},
		{"the second term's node", s, documentOrder, []int64{0}, []int64{-13}, impl.ErrRange},
		{"the second term's form", s, documentOrder, []int64{0}, []int64{2, 0}, impl.ErrForm},
		{"one node more than MaxNodes in the second term", s, documentOrder, []int64{0}, chain(25), impl.ErrMany},
		{"two lists that are the same, and no terms", s, documentOrder, []int64{1}, []int64{1}, impl.ErrForm},
	} {
		mustBe(t, "CompareTerms: "+c.what, impl.CompareTerms(c.s, c.order, c.a, c.b), impl.IntResult{Code: c.code})
		mustBe(t, "OrientEquation: "+c.what, impl.OrientEquation(c.s, c.order, equation(c.a, c.b)), impl.EquationResult{Code: c.code})
		mustBe(t, "IsDecreasing: "+c.what, impl.IsDecreasing(c.s, c.order, []impl.Equation{equation(c.a, c.b)}), false)
	}
}

func TestOrderedTermsOfWhateverLists(t *testing.T) {
	for i, s := range fewSignatures() {
		for j, a := range someTerms() {
			for k, b := range someTerms() {
				checkOrderedPair(t, s, someOrders[(i+3*j+5*k)%len(someOrders)], a, b)
			}
		}
	}
	for _, s := range allSignatures() {
		for _, order := range someOrders {
			checkOrderedPair(t, s, order, []int64{0}, []int64{-1})
			checkRow(t, s, order, [][]int64{{0}})
		}
	}
	s := exampleSignature()
	for _, a := range longLists() {
		for _, b := range longLists() {
			checkOrderedPair(t, s, documentOrder, a, b)
		}
	}
}

// law tells the equation of a text over the example's symbols, with any variables.
func law(text string) impl.Equation {
	left, right, _ := strings.Cut(text, "=")
	return equation(read(left), read(right))
}

func laws(texts ...string) []impl.Equation {
	list := []impl.Equation{}
	for _, text := range texts {
		list = append(list, law(text))
	}
	return list
}

func TestOrientEquationKnownValues(t *testing.T) {
	s := exampleSignature()
	for _, c := range []struct {
		text, want string
	}{
		{"m(e,A)=A", "m(e,A)=A"},
		{"A=m(e,A)", "m(e,A)=A"},
		{"a=e", "a=e"},
		{"e=a", "a=e"},
		{"m(A,m(B,C))=m(m(A,B),C)", "m(m(A,B),C)=m(A,m(B,C))"},
		{"m(m(A,B),C)=m(A,m(B,C))", "m(m(A,B),C)=m(A,m(B,C))"},
		{"i(e)=m(i(i(e)),a)", "m(i(i(e)),a)=i(e)"},
		{"L=i(L)", "i(L)=L"},
		{"m(G,L)=i(H)", ""},
		{"m(A,B)=m(B,A)", ""},
		{"A=B", ""},
		{"A=A", ""},
		{"e=e", ""},
		{"m(i(A),a)=m(i(A),a)", ""},
		{"e=A", ""},
		{"i(A)=i(B)", ""},
	} {
		want := impl.EquationResult{Code: impl.ErrOrder}
		if c.want != "" {
			want = impl.EquationResult{Equation: law(c.want)}
		}
		mustBe(t, "OrientEquation of "+c.text, impl.OrientEquation(s, documentOrder, law(c.text)), want)
		mustBe(t, "OrientEquation of "+c.text+", turned", impl.OrientEquation(s, documentOrder, equation(law(c.text).Right, law(c.text).Left)), want)
	}
}

func TestIsDecreasingKnownValues(t *testing.T) {
	s := exampleSignature()
	falling := laws("m(e,A)=A", "i(i(A))=A", "a=e", "m(m(A,B),C)=m(A,m(B,C))", "m(A,F)=F", "i(a)=m(e,e)")
	twelve := slices.Concat(falling, falling)
	for _, c := range []struct {
		what  string
		rules []impl.Equation
		want  bool
	}{
		{"nil", nil, true},
		{"no rules", []impl.Equation{}, true},
		{"some", falling, true},
		{"the same rule twice", laws("a=e", "a=e"), true},
		{"MaxEquations", twelve, true},
		{"one more", append(laws("a=e"), twelve...), false},
		{"a rule with sides that are the same", laws("i(A)=i(A)"), false},
		{"a rule with sides beside each other", laws("m(A,B)=m(B,A)"), false},
		{"a rule the wrong way about", laws("A=m(e,A)"), false},
		{"a rule with a variable more on its right", laws("m(A,A)=i(B)"), false},
		{"a rule with the variable MaxRuleVars - 1", laws("i(F)=F"), true},
		{"a rule with the variable MaxRuleVars", laws("i(G)=G"), false},
		{"a rule without sides", []impl.Equation{{}}, false},
		{"a rule without a right side", []impl.Equation{equation([]int64{3}, nil)}, false},
		{"a rule with a node that is none", []impl.Equation{equation([]int64{3}, []int64{4})}, false},
		{"a rule with a part of a term", []impl.Equation{equation([]int64{3}, []int64{1})}, false},
	} {
		mustBe(t, "IsDecreasing of "+c.what, impl.IsDecreasing(s, documentOrder, c.rules), c.want)
		mustBe(t, "what is wanted of "+c.what, wantDecreasing(s, documentOrder, c.rules), c.want)
		for _, order := range someOrders {
			mustBe(t, fmt.Sprintf("IsDecreasing of %s by %v", c.what, order), impl.IsDecreasing(s, order, c.rules), wantDecreasing(s, order, c.rules))
		}
	}
	for _, bad := range laws("i(A)=i(A)", "m(A,B)=m(B,A)", "e=a", "A=i(A)", "i(G)=G") {
		for place := range twelve {
			rules := slices.Clone(twelve)
			rules[place] = bad
			mustBe(t, fmt.Sprint("IsDecreasing with ", bad, " at ", place), impl.IsDecreasing(s, documentOrder, rules), false)
		}
	}
	for _, s := range []impl.Signature{{}, constants(7), signature(impl.Symbol{Name: "i", Arity: 1})} {
		mustBe(t, "IsDecreasing of no rules in a signature with a fault", impl.IsDecreasing(s, nil, nil), false)
		mustBe(t, "IsDecreasing of no rules in a signature with a fault, a precedence as long as it", impl.IsDecreasing(s, permutations(len(s.Symbols) % 7)[0], nil), false)
	}
}

func TestSortTermsKnownValues(t *testing.T) {
	s := exampleSignature()
	for _, c := range []struct {
		what     string
		order    []int64
		list     []string
		sorted   []string
		greatest int64
	}{
		{"the constants and one more", documentOrder, []string{"a", "e", "i(e)"}, []string{"e", "i(e)", "a"}, 0},
		{"one term", documentOrder, []string{"i(e)"}, []string{"i(e)"}, 0},
		{"one term three times", documentOrder, []string{"i(e)", "i(e)", "i(e)"}, []string{"i(e)", "i(e)", "i(e)"}, 0},
		{"the greatest one first", documentOrder, []string{"a", "i(e)", "e"}, []string{"e", "i(e)", "a"}, 0},
		{"the greatest one in the middle", documentOrder, []string{"i(e)", "a", "e"}, []string{"e", "i(e)", "a"}, 1},
		{"the greatest one last", documentOrder, []string{"e", "i(e)", "a"}, []string{"e", "i(e)", "a"}, 2},
		{"the greatest one twice", documentOrder, []string{"e", "a", "i(e)", "a"}, []string{"e", "i(e)", "a", "a"}, 1},
		{"the greatest one first and last", documentOrder, []string{"a", "e", "a"}, []string{"e", "a", "a"}, 0},
		{"the lowest one twice", documentOrder, []string{"e", "a", "e"}, []string{"e", "e", "a"}, 1},
		{"by another precedence", []int64{3, 2, 1, 0}, []string{"a", "e", "i(a)", "m(a,a)"}, []string{"a", "m(a,a)", "i(a)", "e"}, 1},
		{"a greater term that is not the longest one", documentOrder, []string{"m(m(e,e),m(e,e))", "i(i(i(e)))", "a", "m(i(e),e)"}, []string{"i(i(i(e)))", "m(i(e),e)", "m(m(e,e),m(e,e))", "a"}, 2},
	} {
		list, sorted := [][]int64{}, [][]int64{}
		for place := range c.list {
			list, sorted = append(list, read(c.list[place])), append(sorted, read(c.sorted[place]))
		}
		mustBeTerms(t, "SortTerms of "+c.what, impl.SortTerms(s, c.order, list), impl.TermsResult{Terms: sorted})
		mustBe(t, "GreatestOf "+c.what, impl.GreatestOf(s, c.order, list), impl.IntResult{Value: c.greatest})
		checkRow(t, s, c.order, list)
	}
	for _, none := range [][][]int64{nil, {}} {
		mustBeTerms(t, "SortTerms of no term", impl.SortTerms(s, documentOrder, none), impl.TermsResult{})
		mustBe(t, "GreatestOf no term", impl.GreatestOf(s, documentOrder, none), impl.IntResult{Code: impl.ErrNone})
	}
}

// chains makes so many chains, the longest one first.
func chains(count int) [][]int64 {
	list := [][]int64{}
	for size := count; size > 0; size-- {
		list = append(list, chain(size))
	}
	return list
}

func TestSortTermsTakesMaxSortAndNoMore(t *testing.T) {
	s := exampleSignature()
	for count := range 13 {
		list, rising := chains(count), chains(count)
		slices.Reverse(rising)
		mustBeTerms(t, fmt.Sprint("SortTerms of ", count, " that fall"), impl.SortTerms(s, documentOrder, list), impl.TermsResult{Terms: rising})
		mustBeTerms(t, fmt.Sprint("SortTerms of ", count, " that rise"), impl.SortTerms(s, documentOrder, rising), impl.TermsResult{Terms: rising})
		if count > 0 {
			mustBe(t, fmt.Sprint("GreatestOf ", count, " that fall"), impl.GreatestOf(s, documentOrder, list), impl.IntResult{})
			mustBe(t, fmt.Sprint("GreatestOf ", count, " that rise"), impl.GreatestOf(s, documentOrder, rising), impl.IntResult{Value: int64(count - 1)})
		}
	}
	for _, list := range [][][]int64{chains(13), slices.Repeat([][]int64{{0}}, 13), make([][]int64, 13), make([][]int64, 70000)} {
		mustBeTerms(t, fmt.Sprint("SortTerms of ", len(list)), impl.SortTerms(s, documentOrder, list), impl.TermsResult{Code: impl.ErrMany})
		mustBe(t, fmt.Sprint("GreatestOf ", len(list)), impl.GreatestOf(s, documentOrder, list), impl.IntResult{Code: impl.ErrMany})
	}
	mustBeTerms(t, "SortTerms of MaxSort alike", impl.SortTerms(s, documentOrder, slices.Repeat([][]int64{{0}}, 12)), impl.TermsResult{Terms: slices.Repeat([][]int64{{0}}, 12)})
	mustBe(t, "GreatestOf MaxSort alike", impl.GreatestOf(s, documentOrder, slices.Repeat([][]int64{{0}}, 12)), impl.IntResult{})
}

func TestSortTermsAsksCodesInTheirOrder(t *testing.T) {
	s, noConstant := exampleSignature(), signature(impl.Symbol{Name: "i", Arity: 1})
	variable, half, none, wrong := []int64{-1}, []int64{2, 0}, []int64(nil), []int64{4}
	for _, c := range []struct {
		what  string
		s     impl.Signature
		order []int64
		list  [][]int64
		code  int64
	}{
		{"the signature of no terms", noConstant, nil, nil, impl.ErrNone},
		{"the signature ahead of the precedence", noConstant, []int64{4, 4}, chains(13), impl.ErrNone},
		{"no symbols at all", impl.Signature{}, nil, nil, impl.ErrMany},
		{"the precedence of no terms", s, []int64{0, 1, 2}, nil, impl.ErrMany},
		{"a number of the precedence ahead of too many", s, []int64{0, 1, 2, 4}, chains(13), impl.ErrRange},
		{"a number twice ahead of too many", s, []int64{0, 1, 2, 2}, chains(13), impl.ErrTaken},
		{"a number twice ahead of a term", s, []int64{0, 1, 2, 2}, [][]int64{none}, impl.ErrTaken},
		{"a number twice and no terms", s, []int64{0, 1, 2, 2}, nil, impl.ErrTaken},
		{"too many ahead of the first term", s, documentOrder, append([][]int64{half}, chains(12)...), impl.ErrMany},
		{"too many ahead of a variable", s, documentOrder, append([][]int64{variable}, chains(12)...), impl.ErrMany},
		{"a variable alone", s, documentOrder, [][]int64{variable}, impl.ErrForm},
		{"a variable in the first term", s, documentOrder, append([][]int64{{1, -12}}, chains(3)...), impl.ErrForm},
		{"a variable in the last term", s, documentOrder, append(chains(11), read("m(i(a),m(e,A))")), impl.ErrForm},
		{"a variable in the first term ahead of no second term", s, documentOrder, [][]int64{variable, none}, impl.ErrForm},
		{"a variable in the first term ahead of the second term's node", s, documentOrder, [][]int64{variable, wrong}, impl.ErrForm},
		{"no first term ahead of a variable", s, documentOrder, [][]int64{none, variable}, impl.ErrMany},
		{"the first term's node ahead of a variable", s, documentOrder, [][]int64{wrong, variable}, impl.ErrRange},
		{"the first term's node ahead of no second term", s, documentOrder, [][]int64{wrong, none}, impl.ErrRange},
		{"the first term's form ahead of no second term", s, documentOrder, [][]int64{half, none}, impl.ErrForm},
		{"a term's fault ahead of its variable", s, documentOrder, [][]int64{{-1, 4}}, impl.ErrRange},
		{"a term of MaxNodes", s, documentOrder, [][]int64{chain(24)}, impl.OK},
		{"a term of one node more", s, documentOrder, [][]int64{chain(25)}, impl.ErrMany},
		{"the last one's fault", s, documentOrder, append(chains(11), wrong), impl.ErrRange},
	} {
		if c.code != impl.OK {
			mustBeTerms(t, "SortTerms: "+c.what, impl.SortTerms(c.s, c.order, c.list), impl.TermsResult{Code: c.code})
			mustBe(t, "GreatestOf: "+c.what, impl.GreatestOf(c.s, c.order, c.list), impl.IntResult{Code: c.code})
		}
		checkRow(t, c.s, c.order, c.list)
	}
}

func TestSortTermsOfManyLists(t *testing.T) {
	s, numbers, orders := crowd(), numbersByRule(11), permutations(6)
	for range 700 {
		list := [][]int64{}
		for range numbers.below(13) {
			list = append(list, numbers.crowdTerm(1+numbers.below(1+numbers.below(12)), 0))
			if numbers.below(4) == 0 && len(list) < 12 {
				list = append(list, slices.Clone(list[numbers.below(len(list))]))
			}
		}
		checkRow(t, s, orders[numbers.below(len(orders))], list)
	}
	for _, order := range permutations(4) {
		for _, list := range listsOver([][]int64{{0}, {3}, {1, 0}, {1, 3}, {2, 0, 3}}, 3) {
			checkRow(t, exampleSignature(), order, list)
		}
	}
}

func TestSortTermsOfWhateverLists(t *testing.T) {
	for i, s := range fewSignatures() {
		for j, first := range someTerms() {
			for k, second := range someTerms() {
				order := someOrders[(i+j+k)%len(someOrders)]
				checkRow(t, s, order, [][]int64{first, second})
				checkRow(t, s, order, [][]int64{{0}, first, {0}, second})
			}
		}
	}
}

// relations asks CompareTerms of all pairs of these terms.
func relations(t *testing.T, s impl.Signature, order []int64, terms [][]int64) [][]int64 {
	t.Helper()
	table := [][]int64{}
	for _, a := range terms {
		row := []int64{}
		for _, b := range terms {
			relation := impl.CompareTerms(s, order, a, b)
			mustBe(t, fmt.Sprintf("the code of CompareTerms of %v and %v", a, b), relation.Code, int64(impl.OK))
			row = append(row, relation.Value)
		}
		table = append(table, row)
	}
	return table
}

// mustStandInOrder asks of all pairs and all threes what P8 says of them.
func mustStandInOrder(t *testing.T, s impl.Signature, order []int64, terms [][]int64) {
	t.Helper()
	table, threes := relations(t, s, order, terms), 0
	for i := range terms {
		for j := range terms {
			if (table[i][j] == impl.Same) != slices.Equal(terms[i], terms[j]) {
				t.Errorf("%v and %v: told %d", terms[i], terms[j], table[i][j])
			}
			if table[j][i] != turnedRelation(table[i][j]) {
				t.Errorf("%v and %v: told %d, and turned %d", terms[i], terms[j], table[i][j], table[j][i])
			}
			if table[i][j] == impl.Beside && wantGround(s, terms[i]) && wantGround(s, terms[j]) {
				t.Errorf("%v and %v have no variables, and are beside each other", terms[i], terms[j])
			}
			if table[i][j] != impl.Greater {
				continue
			}
			for k := range terms {
				if table[j][k] == impl.Greater {
					threes++
					if table[i][k] != impl.Greater {
						t.Errorf("by %v %v is above %v, and that above %v, but told is %d", order, terms[i], terms[j], terms[k], table[i][k])
					}
				}
			}
		}
	}
	if threes < len(terms) {
		t.Errorf("only %d threes were asked", threes)
	}
}

func TestP8AboveIsAnOrder(t *testing.T) {
	s := exampleSignature()
	for _, order := range permutations(4) {
		mustStandInOrder(t, s, order, ruleTerms(3, -1, -2))
	}
	mustStandInOrder(t, s, documentOrder, ruleTerms(4, -1, -12))
	mustStandInOrder(t, s, []int64{0, 3, 2, 1}, ruleTerms(4, -1))
	numbers, orders := numbersByRule(21), permutations(6)
	for range 6 {
		terms := [][]int64{}
		for range 60 {
			terms = append(terms, numbers.crowdTerm(1+numbers.below(24), numbers.below(3)))
		}
		mustStandInOrder(t, crowd(), orders[numbers.below(len(orders))], terms)
	}
}

func TestP8TermsWithoutVariablesStandInOneRow(t *testing.T) {
	s, numbers := crowd(), numbersByRule(31)
	for round, order := range permutations(6) {
		if round%40 != 0 {
			continue
		}
		terms := [][]int64{}
		for range 40 {
			terms = append(terms, numbers.crowdTerm(1+numbers.below(10), 0))
		}
		mustStandInOrder(t, s, order, terms)
		for list := range slices.Chunk(terms, 12) {
			mustBeInRow(t, s, order, list)
		}
	}
	for _, order := range permutations(4) {
		mustStandInOrder(t, exampleSignature(), order, ruleTerms(4))
	}
}

// mustBeInRow asks, of what SortTerms tells, whether none stands behind one that is above it, and whether just the same terms are there as before.
func mustBeInRow(t *testing.T, s impl.Signature, order []int64, list [][]int64) {
	t.Helper()
	sorted := impl.SortTerms(s, order, list)
	mustBe(t, fmt.Sprint("the code of SortTerms of ", list), sorted.Code, int64(impl.OK))
	for place, term := range sorted.Terms {
		for _, ahead := range sorted.Terms[:place] {
			if impl.CompareTerms(s, order, ahead, term).Value == impl.Greater {
				t.Errorf("%v stands ahead of %v, and is above it by %v", ahead, term, order)
			}
		}
	}
	before, behind := slices.Clone(list), slices.Clone(sorted.Terms)
	slices.SortFunc(before, slices.Compare[[]int64])
	slices.SortFunc(behind, slices.Compare[[]int64])
	mustBe(t, "the terms that were sorted, by their nodes", behind, before)
	greatest := impl.GreatestOf(s, order, list)
	last := sorted.Terms[len(sorted.Terms)-1]
	mustBe(t, "the greatest one and the last one", list[greatest.Value], last)
	if slices.ContainsFunc(list[:greatest.Value], func(term []int64) bool { return slices.Equal(term, last) }) {
		t.Errorf("the greatest one of %v stands ahead of %d, too", list, greatest.Value)
	}
}

func TestP8ATermIsAboveItsParts(t *testing.T) {
	numbers, orders := numbersByRule(41), permutations(6)
	terms := [][]int64{tower([]int64{1, 4}, 24, -1), tower([]int64{4}, 24, 5)}
	for range 200 {
		terms = append(terms, numbers.crowdTerm(2+numbers.below(23), numbers.below(4)))
	}
	for _, term := range terms {
		order := orders[numbers.below(len(orders))]
		for place := 1; place < len(term); place++ {
			part := wantSubterm(crowd(), term, int64(place)).Term
			mustBe(t, fmt.Sprintf("CompareTerms of %v and its part %v by %v", term, part, order), impl.CompareTerms(crowd(), order, term, part), impl.IntResult{Value: impl.Greater})
			mustBe(t, fmt.Sprintf("CompareTerms of %v and what it is a part of, %v, by %v", part, term, order), impl.CompareTerms(crowd(), order, part, term), impl.IntResult{Value: impl.Less})
		}
	}
}

func TestP8WhatIsAboveStaysAboveWhateverStandsForTheVariables(t *testing.T) {
	s, terms, asked := exampleSignature(), ruleTerms(3, -1, -2), 0
	bindings := slices.Concat(bindingsTo([]int64{0, 1}, ruleTerms(2, -1, -2, -3)), []impl.Binding{binds("A", "m(B,i(e))", "B", "m(A,A)"), binds("A", "m(m(a,C),e)"), binds("B", "i(i(i(a)))")})
	for _, order := range [][]int64{documentOrder, lowConstants, {3, 2, 1, 0}} {
		for _, a := range terms {
			for _, b := range terms {
				if impl.CompareTerms(s, order, a, b).Value != impl.Greater {
					continue
				}
				for _, binding := range bindings {
					upper, lower := impl.ApplyBinding(s, binding, a), impl.ApplyBinding(s, binding, b)
					asked++
					if impl.CompareTerms(s, order, upper.Term, lower.Term) != (impl.IntResult{Value: impl.Greater}) {
						t.Errorf("by %v %v is above %v, but %v not above %v", order, a, b, upper, lower)
					}
				}
			}
		}
	}
	if asked < 10000 {
		t.Errorf("only %d pairs were asked", asked)
	}
}

func TestP8WhatIsAboveStaysAboveWhereverBothStand(t *testing.T) {
	s, terms, numbers, asked := exampleSignature(), ruleTerms(3, -1, -2), numbersByRule(51), 0
	around := [][]int64{read("i(e)"), read("m(e,a)"), read("m(m(A,B),i(C))"), read("i(i(m(a,i(A))))")}
	for range 10 {
		around = append(around, numbers.term(2+numbers.below(12), 3))
	}
	for _, order := range [][]int64{documentOrder, lowConstants, {3, 2, 1, 0}} {
		for i, a := range terms {
			for j, b := range terms {
				if impl.CompareTerms(s, order, a, b).Value != impl.Greater {
					continue
				}
				whole := around[(i+j)%len(around)]
				for place := range whole {
					upper, lower := impl.ReplaceAt(s, whole, int64(place), a), impl.ReplaceAt(s, whole, int64(place), b)
					asked++
					if impl.CompareTerms(s, order, upper.Term, lower.Term) != (impl.IntResult{Value: impl.Greater}) {
						t.Errorf("by %v %v is above %v, but not at %d of %v", order, a, b, place, whole)
					}
				}
			}
		}
	}
	if asked < 2000 {
		t.Errorf("only %d pairs were asked", asked)
	}
}

func TestP8WhatIsOrientedFalls(t *testing.T) {
	s, terms := exampleSignature(), ruleTerms(3, -1, -2)
	for _, a := range terms {
		for _, b := range terms {
			oriented := impl.OrientEquation(s, documentOrder, equation(a, b))
			turned := impl.OrientEquation(s, documentOrder, equation(b, a))
			mustBe(t, fmt.Sprint("OrientEquation of ", a, " and ", b, ", and turned"), turned, oriented)
			if oriented.Code == impl.OK && !impl.IsDecreasing(s, documentOrder, []impl.Equation{oriented.Equation}) {
				t.Errorf("%v does not fall", oriented)
			}
		}
	}
}

// orderAnswers calls every function of the chapter with whatever of the arguments it takes.
func orderAnswers(s impl.Signature, order []int64, a []int64, b []int64, rules []impl.Equation, list [][]int64) []any {
	return []any{
		impl.CompareTerms(s, order, a, b), impl.OrientEquation(s, order, equation(a, b)), impl.IsDecreasing(s, order, rules),
		impl.SortTerms(s, order, list), impl.GreatestOf(s, order, list),
	}
}

func someRules() [][]impl.Equation {
	return [][]impl.Equation{nil, {}, laws("m(e,A)=A"), laws("a=e", "i(i(A))=A"), laws("e=a"), {{}}, laws("i(G)=G"), variedEquations(12), variedEquations(13)}
}

func someRows() [][][]int64 {
	return [][][]int64{nil, {}, {{0}}, {{3}, {0}, {1, 0}}, {{3}, {0}, {3}}, {{0}, {-1}}, {{0}, nil}, {{9}}, chains(12), chains(13)}
}

func cloneRow(list [][]int64) [][]int64 {
	row := [][]int64{}
	for _, term := range list {
		row = append(row, guardNumbers(term).list)
	}
	return row
}

func TestP1OrderAnswersHangOnTheArgumentsAlone(t *testing.T) {
	for i, s := range fewSignatures() {
		for j, a := range someTerms() {
			for k, b := range someTerms() {
				order, rules, list := someOrders[(i+3*j+5*k)%len(someOrders)], someRules()[(i+j+7*k)%len(someRules())], someRows()[(i+7*j+k)%len(someRows())]
				first := orderAnswers(s, order, a, b, rules, list)
				orderAnswers(exampleSignature(), lowConstants, read("m(A,i(B))"), read("m(A,B)"), laws("a=e"), chains(4))
				mustBe(t, "the same call again", orderAnswers(s, order, a, b, rules, list), first)
				again := orderAnswers(signature(guardSymbols(s.Symbols).list...), guardNumbers(order).list, guardNumbers(a).list, guardNumbers(b).list, slices.Clone(rules), cloneRow(list))
				mustBe(t, "the same call with other memory", again, first)
			}
		}
	}
}

func TestP1NilAndEmptyRowsAreTheSame(t *testing.T) {
	none := []int64{}
	for _, s := range fewSignatures() {
		for _, order := range someOrders {
			mustBe(t, "empty lists", orderAnswers(s, order, none, none, []impl.Equation{}, [][]int64{}), orderAnswers(s, order, nil, nil, nil, nil))
			mustBe(t, "an empty term", orderAnswers(s, order, none, []int64{0}, []impl.Equation{equation(none, []int64{0})}, [][]int64{none}), orderAnswers(s, order, nil, []int64{0}, []impl.Equation{equation(nil, []int64{0})}, [][]int64{nil}))
			mustBe(t, "an empty term behind", orderAnswers(s, order, []int64{0}, none, []impl.Equation{equation([]int64{0}, none)}, [][]int64{{0}, none}), orderAnswers(s, order, []int64{0}, nil, []impl.Equation{equation([]int64{0}, nil)}, [][]int64{{0}, nil}))
		}
		mustBe(t, "an empty precedence", orderAnswers(s, none, []int64{0}, []int64{0}, nil, nil), orderAnswers(s, nil, []int64{0}, []int64{0}, nil, nil))
	}
}

// guardedRow is a list of terms all of which lie in greater lists, as it does itself.
type guardedRow struct {
	terms []guarded[int64]
	whole [][]int64
	list  [][]int64
}

func guardRow(list [][]int64) guardedRow {
	g := guardedRow{}
	for _, term := range list {
		inside := guardNumbers(term)
		g.terms, g.whole = append(g.terms, inside), append(g.whole, inside.list)
	}
	g.whole = append(g.whole, []int64{guardNumber})
	g.list = g.whole[:len(list)]
	return g
}

func (g guardedRow) mustBeUnchanged(t *testing.T, who string) {
	t.Helper()
	for place, inside := range g.terms {
		inside.mustBeUnchanged(t, who)
		mustBe(t, who+": a term of its argument", g.whole[place], inside.list)
	}
	mustBe(t, who+": what is behind the terms of its argument", g.whole[len(g.terms)], []int64{guardNumber})
}

func TestP1OrderArgumentsAreNotChanged(t *testing.T) {
	terms := slices.Concat(someTerms(), [][]int64{read("m(m(A,B),C)"), read("m(A,m(B,C))"), read("m(a,i(e))")})
	for i, order := range slices.Concat(someOrders, permutations(4)) {
		for j, a := range terms {
			for k, b := range terms {
				symbols, ranks, first, second := guardSymbols(exampleSignature().Symbols), guardNumbers(order), guardNumbers(a), guardNumbers(b)
				row, spare := guardRow(someRows()[(i+j+k)%len(someRows())]), equation([]int64{3}, []int64{0})
				rules := []impl.Equation{equation(first.list, second.list), equation(second.list, first.list), spare}
				orderAnswers(signature(symbols.list...), ranks.list, first.list, second.list, rules[:2], row.list)
				symbols.mustBeUnchanged(t, "a function of the order")
				ranks.mustBeUnchanged(t, "a function of the order")
				first.mustBeUnchanged(t, "a function of the order")
				second.mustBeUnchanged(t, "a function of the order")
				row.mustBeUnchanged(t, "SortTerms or GreatestOf")
				mustBe(t, "a list of rules that was asked", rules, []impl.Equation{equation(first.list, second.list), equation(second.list, first.list), spare})
			}
		}
	}
}

func TestP1OrientedEquationsAreNewMemory(t *testing.T) {
	s := exampleSignature()
	for _, a := range slices.Concat(ruleTerms(3, -1, -2), [][]int64{chain(24), fullComb()}) {
		for _, b := range ruleTerms(3, -1, -2) {
			want := wantOriented(s, documentOrder, equation(a, b))
			if want.Code != impl.OK {
				continue
			}
			ranks, first, second := guardNumbers(documentOrder), guardNumbers(a), guardNumbers(b)
			checkNewSides(t, "OrientEquation", wantOriented(s, documentOrder, equation(slices.Clone(a), slices.Clone(b))).Equation, func() impl.Equation {
				return impl.OrientEquation(s, ranks.list, equation(first.list, second.list)).Equation
			}, ranks, first, second)
		}
	}
	whole := guardNumbers(read("m(i(a),e)"))
	shared := equation(whole.list[1:3], whole.list[2:3])
	oriented := impl.OrientEquation(s, documentOrder, shared)
	overwriteNumbers(oriented.Equation.Left)
	mustBe(t, "the right side beside the left one of which it was a part", oriented.Equation.Right, read("a"))
	whole.mustBeUnchanged(t, "who overwrote the answer of OrientEquation")
}

// checkNewTerms overwrites each term of an answer by itself, and then the whole of it, and holds all else against what was asked for.
func checkNewTerms(t *testing.T, who string, want [][]int64, ask func() [][]int64) {
	t.Helper()
	kept := ask()
	for place := range want {
		spoilt := ask()
		overwriteNumbers(spoilt[place])
		for other, beside := range spoilt {
			if other != place && !slices.Equal(beside, want[other]) {
				t.Errorf("%s: the term %d is %v beside the term %d that was overwritten, want %v", who, other, beside, place, want[other])
			}
		}
	}
	spoilt := ask()
	for _, term := range spoilt {
		overwriteNumbers(term)
	}
	clear(spoilt[:cap(spoilt)])
	mustBeTerms(t, who+" ahead of some that were overwritten", impl.TermsResult{Terms: kept}, impl.TermsResult{Terms: want})
	mustBeTerms(t, who+" behind some that were overwritten", impl.TermsResult{Terms: ask()}, impl.TermsResult{Terms: want})
}

func TestP1SortedTermsAreNewMemory(t *testing.T) {
	s := exampleSignature()
	rows := slices.Concat(listsOver([][]int64{{0}, {3}, {1, 0}, {2, 0, 3}}, 3), [][][]int64{{}, {{0}}, chains(12), slices.Repeat([][]int64{{1, 3}}, 12)})
	for _, list := range rows {
		given, want := guardRow(list), wantSorted(s, documentOrder, list)
		wanted := [][]int64{}
		for _, term := range want.Terms {
			wanted = append(wanted, slices.Clone(term))
		}
		checkNewTerms(t, "SortTerms", wanted, func() [][]int64 { return impl.SortTerms(s, documentOrder, given.list).Terms })
		kept := impl.SortTerms(s, documentOrder, given.list)
		given.mustBeUnchanged(t, "who overwrote the answer of SortTerms")
		for _, inside := range given.terms {
			overwriteNumbers(inside.whole)
		}
		clear(given.whole)
		mustBeTerms(t, "SortTerms of arguments that were overwritten", kept, impl.TermsResult{Terms: wanted})
	}
	one := read("i(a)")
	checkNewTerms(t, "SortTerms of one list three times", [][]int64{read("i(a)"), read("i(a)"), read("i(a)")}, func() [][]int64 { return impl.SortTerms(s, documentOrder, [][]int64{one, one, one}).Terms })
	whole := read("m(i(a),e)")
	checkNewTerms(t, "SortTerms of a list and its parts", [][]int64{read("e"), read("a"), read("i(a)"), read("m(i(a),e)")}, func() [][]int64 {
		return impl.SortTerms(s, documentOrder, [][]int64{whole, whole[1:3], whole[2:3], whole[3:]}).Terms
	})
	mustBe(t, "a list that stood with its parts", whole, read("m(i(a),e)"))
}

func TestP1OrderOfListsThatShareMemory(t *testing.T) {
	s := exampleSignature()
	for _, term := range append(smallTerms(4), read("m(m(A,B),m(B,A))"), fullComb()) {
		for place := range term {
			given := guardNumbers(term)
			part := given.list[place : place+len(wantSubterm(s, term, int64(place)).Term)]
			checkOrderedPair(t, s, documentOrder, given.list, part)
			checkOrderedPair(t, s, documentOrder, part, given.list)
			checkRow(t, s, documentOrder, [][]int64{part, given.list, part})
			given.mustBeUnchanged(t, "a function of the order of lists that share memory")
		}
	}
	order := guardNumbers([]int64{1, 0})
	mustBe(t, "a precedence that is a part of a term's list", impl.CompareTerms(constants(2), order.list, order.list[:1], order.list[1:]), impl.IntResult{Value: impl.Less})
	order.mustBeUnchanged(t, "CompareTerms of a precedence's own numbers")
}

func TestOrderIsNotLedBehindTheEndBySpareRoom(t *testing.T) {
	s, whole, order, list := exampleSignature(), read("m(i(A),m(B,e))"), []int64{0, 1, 2, 3}, [][]int64{{3}, {1, 0}, {0}}
	for end := range whole {
		checkOrderedPair(t, s, documentOrder, whole[:end], read("m(A,B)"))
		checkOrderedPair(t, s, documentOrder, read("m(A,B)"), whole[:end])
		checkRow(t, s, documentOrder, [][]int64{{0}, whole[:end]})
	}
	for end := range 5 {
		checkOrderedPair(t, s, order[:end], read("m(e,A)"), read("A"))
	}
	for end := range 4 {
		checkRow(t, s, order, list[:end])
	}
}

func TestP1NothingIsKeptOfAnOrder(t *testing.T) {
	s, order, term, list := exampleSignature(), []int64{0, 1, 2, 3}, read("m(e,A)"), [][]int64{{3}, {0}}
	orderAnswers(s, order, term, read("A"), laws("a=e"), list)
	order[0], order[3] = 3, 0
	mustBe(t, "CompareTerms by the new precedence", impl.CompareTerms(s, order, []int64{0}, []int64{3}), impl.IntResult{Value: impl.Greater})
	mustBe(t, "IsDecreasing by the new precedence", impl.IsDecreasing(s, order, laws("a=e")), false)
	mustBe(t, "GreatestOf by the new precedence", impl.GreatestOf(s, order, list), impl.IntResult{Value: 1})
	mustBeTerms(t, "SortTerms by the new precedence", impl.SortTerms(s, order, list), impl.TermsResult{Terms: [][]int64{{3}, {0}}})
	term[2] = -2
	mustBe(t, "CompareTerms of the new term", impl.CompareTerms(s, order, term, read("A")), impl.IntResult{Value: impl.Beside})
	list[0][0] = 0
	list[1][0] = 3
	mustBe(t, "GreatestOf the new terms", impl.GreatestOf(s, order, list), impl.IntResult{Value: 0})
	s.Symbols[1], s.Symbols[2] = s.Symbols[2], s.Symbols[1]
	mustBe(t, "CompareTerms by the new symbols", impl.CompareTerms(s, order, []int64{1, -1, 3}, []int64{2, -1}), impl.IntResult{Value: impl.Less})
}
