package tests

import (
	"fmt"
	"math"
	"slices"
	"strings"
	"testing"

	"loop.example/g00653/impl"
)

// read tells the nodes of a text over the example's symbols.
func read(text string) []int64 {
	nodes, _, _ := spell(exampleSignature(), text)
	return nodes
}

// binds makes a binding of letters and texts: a letter, the text of its term, the next letter, and so on.
func binds(words ...string) impl.Binding {
	b := impl.Binding{}
	for pair := range slices.Chunk(words, 2) {
		b.Vars = append(b.Vars, int64(strings.Index(variableLetters, pair[0])))
		b.Terms = append(b.Terms, read(pair[1]))
	}
	return b
}

// numberedBinding binds the variables from 0 on, so many of them, each to that term.
func numberedBinding(count int, term ...int64) impl.Binding {
	b := impl.Binding{}
	for variable := range count {
		b.Vars = append(b.Vars, int64(variable))
		b.Terms = append(b.Terms, slices.Clone(term))
	}
	return b
}

// mustBeBinding takes an empty list and nil as the same value, as the document does.
func mustBeBinding(t *testing.T, who string, got, want impl.BindingResult) {
	t.Helper()
	if got.Code != want.Code || !slices.Equal(got.Binding.Vars, want.Binding.Vars) || !slices.EqualFunc(got.Binding.Terms, want.Binding.Terms, slices.Equal[[]int64]) {
		t.Errorf("%s: got %+v, want %+v", who, got, want)
	}
}

func bindingCode(code int64) impl.BindingResult {
	return impl.BindingResult{Code: code}
}

func wantBindingFault(s impl.Signature, b impl.Binding) int64 {
	if code := wantSignatureFault(s); code != impl.OK {
		return code
	}
	if len(b.Terms) < len(b.Vars) || len(b.Terms) > len(b.Vars) || len(b.Terms) > 12 {
		return impl.ErrMany
	}
	for place, term := range b.Terms {
		if !isKnownVariable(-1 - b.Vars[place]) {
			return impl.ErrRange
		}
		if code := wantTermFault(s, term); code != impl.OK {
			return code
		}
	}
	sorted := slices.Clone(b.Vars)
	slices.Sort(sorted)
	if !slices.Equal(slices.Compact(sorted), b.Vars) {
		return impl.ErrForm
	}
	return impl.OK
}

// dress makes the tree in which each variable that has one is its own tree.
func dress(whole tree, trees map[int64]tree) tree {
	if by, known := trees[whole.node]; known {
		return by
	}
	dressed := tree{node: whole.node}
	for _, argument := range whole.arguments {
		dressed.arguments = append(dressed.arguments, dress(argument, trees))
	}
	return dressed
}

func treesOf(s impl.Signature, b impl.Binding) map[int64]tree {
	trees := map[int64]tree{}
	for place, variable := range b.Vars {
		trees[-1-variable] = wholeTree(s, b.Terms[place])
	}
	return trees
}

// bindingOfTrees goes through the variables from the last one on.
func bindingOfTrees(trees map[int64]tree) impl.Binding {
	b := impl.Binding{}
	for node := int64(-12); node <= -1; node++ {
		if by, known := trees[node]; known {
			b.Vars = slices.Insert(b.Vars, 0, -1-node)
			b.Terms = slices.Insert(b.Terms, 0, nodesOf(by))
		}
	}
	return b
}

func wantApply(s impl.Signature, b impl.Binding, term []int64) impl.TermResult {
	if code := wantBindingFault(s, b); code != impl.OK {
		return impl.TermResult{Code: code}
	}
	if code := wantTermFault(s, term); code != impl.OK {
		return impl.TermResult{Code: code}
	}
	nodes := nodesOf(dress(wholeTree(s, term), treesOf(s, b)))
	if len(nodes) > 24 {
		return impl.TermResult{Code: impl.ErrMany}
	}
	return impl.TermResult{Term: nodes}
}

func wantPairFault(s impl.Signature, a []int64, b []int64) int64 {
	if code := wantTermFault(s, a); code != impl.OK {
		return code
	}
	return wantTermFault(s, b)
}

func sameTrees(a tree, b tree) bool {
	return slices.Equal(nodesOf(a), nodesOf(b))
}

func matchTrees(pattern tree, whole tree, trees map[int64]tree) bool {
	if isKnownVariable(pattern.node) {
		known, found := trees[pattern.node]
		trees[pattern.node] = whole
		return !found || sameTrees(known, whole)
	}
	if pattern.node != whole.node {
		return false
	}
	for place, argument := range pattern.arguments {
		if !matchTrees(argument, whole.arguments[place], trees) {
			return false
		}
	}
	return true
}

func wantMatch(s impl.Signature, pattern []int64, term []int64) impl.BindingResult {
	if code := wantPairFault(s, pattern, term); code != impl.OK {
		return bindingCode(code)
	}
	trees := map[int64]tree{}
	if !matchTrees(wholeTree(s, pattern), wholeTree(s, term), trees) {
		return bindingCode(impl.ErrNone)
	}
	return impl.BindingResult{Binding: bindingOfTrees(trees)}
}

// unifyTrees goes down into the arguments by calling itself: so those of one pair are asked ahead of what is behind it.
func unifyTrees(a tree, b tree, trees map[int64]tree) int64 {
	a, b = dress(a, trees), dress(b, trees)
	switch {
	case len(nodesOf(a)) > 24 || len(nodesOf(b)) > 24:
		return impl.ErrMany
	case sameTrees(a, b):
		return impl.OK
	case isKnownVariable(a.node):
		return bindTree(a.node, b, trees)
	case isKnownVariable(b.node):
		return bindTree(b.node, a, trees)
	case a.node != b.node:
		return impl.ErrNone
	}
	for place, argument := range a.arguments {
		if code := unifyTrees(argument, b.arguments[place], trees); code != impl.OK {
			return code
		}
	}
	return impl.OK
}

func bindTree(node int64, by tree, trees map[int64]tree) int64 {
	if slices.Contains(nodesOf(by), node) {
		return impl.ErrNone
	}
	for other := range trees {
		trees[other] = dress(trees[other], map[int64]tree{node: by})
		if len(nodesOf(trees[other])) > 24 {
			return impl.ErrMany
		}
	}
	trees[node] = by
	return impl.OK
}

func wantUnify(s impl.Signature, a []int64, b []int64) impl.BindingResult {
	if code := wantPairFault(s, a, b); code != impl.OK {
		return bindingCode(code)
	}
	trees := map[int64]tree{}
	if code := unifyTrees(wholeTree(s, a), wholeTree(s, b), trees); code != impl.OK {
		return bindingCode(code)
	}
	return impl.BindingResult{Binding: bindingOfTrees(trees)}
}

func wantShift(s impl.Signature, term []int64, by int64) impl.TermResult {
	if code := wantTermFault(s, term); code != impl.OK {
		return impl.TermResult{Code: code}
	}
	shifted := slices.Clone(term)
	for place, node := range term {
		if isKnownVariable(node) && by >= 0 && by <= 11 {
			shifted[place] = node - by
		}
	}
	if by < 0 || by > 11 || slices.Min(shifted) < -12 {
		return impl.TermResult{Code: impl.ErrRange}
	}
	return impl.TermResult{Term: shifted}
}

func wantThen(s impl.Signature, first impl.Binding, second impl.Binding) impl.BindingResult {
	for _, b := range []impl.Binding{first, second} {
		if code := wantBindingFault(s, b); code != impl.OK {
			return bindingCode(code)
		}
	}
	trees, laid := treesOf(s, second), treesOf(s, second)
	for node, by := range treesOf(s, first) {
		laid[node] = dress(by, trees)
		if len(nodesOf(laid[node])) > 24 {
			return bindingCode(impl.ErrMany)
		}
	}
	return impl.BindingResult{Binding: bindingOfTrees(laid)}
}

func checkApply(t *testing.T, s impl.Signature, b impl.Binding, term []int64) {
	t.Helper()
	who := fmt.Sprintf("of %.200v to %s in %.60v", b, brief(term), s)
	mustBe(t, "BindingFault "+who, impl.BindingFault(s, b), wantBindingFault(s, b))
	mustBe(t, "ApplyBinding "+who, impl.ApplyBinding(s, b, term), wantApply(s, b, term))
}

func checkMatchAndUnify(t *testing.T, s impl.Signature, a []int64, b []int64) {
	t.Helper()
	who := fmt.Sprintf("of %s and %s in %.60v", brief(a), brief(b), s)
	mustBeBinding(t, "MatchTerm "+who, impl.MatchTerm(s, a, b), wantMatch(s, a, b))
	mustBeBinding(t, "UnifyTerms "+who, impl.UnifyTerms(s, a, b), wantUnify(s, a, b))
}

func checkThen(t *testing.T, s impl.Signature, first impl.Binding, second impl.Binding) {
	t.Helper()
	who := fmt.Sprintf("ThenBinding of %.200v and %.200v in %.60v", first, second, s)
	mustBeBinding(t, who, impl.ThenBinding(s, first, second), wantThen(s, first, second))
}

// numbersByRule is a row of numbers by a fixed rule: each run of the tests asks the same.
type numbersByRule uint64

func (r *numbersByRule) below(count int) int {
	*r = *r*6364136223846793005 + 1442695040888963407
	return int(uint64(*r)>>33) % count
}

// term makes a term of just so many nodes over the example's symbols and so many variables, more of these than of constants.
func (r *numbersByRule) term(size int, variables int) []int64 {
	switch {
	case size == 1 && r.below(4) == 0:
		return []int64{int64(3 * r.below(2))}
	case size == 1:
		return []int64{int64(-1 - r.below(variables))}
	case size == 2 || r.below(4) == 0:
		return append([]int64{1}, r.term(size-1, variables)...)
	}
	first := 1 + r.below(size-2)
	return slices.Concat([]int64{2}, r.term(first, variables), r.term(size-1-first, variables))
}

// binding binds each one of the first variables, so many of them, or leaves it out.
func (r *numbersByRule) binding(count int, size int) impl.Binding {
	b := impl.Binding{}
	for variable := range int64(count) {
		if r.below(3) > 0 {
			b.Vars = append(b.Vars, variable)
			b.Terms = append(b.Terms, r.term(1+r.below(size), count))
		}
	}
	return b
}

func TestBindingFaultKnownValues(t *testing.T) {
	s := exampleSignature()
	twelve := []int64{0, 1, 2, 3, 4, 5, 6, 7, 8, 9, 10, 11}
	terms := func(count int) [][]int64 { return slices.Repeat([][]int64{{0}}, count) }
	for _, c := range []struct {
		what string
		b    impl.Binding
		code int64
	}{
		{"nothing", impl.Binding{}, impl.OK},
		{"nothing, empty lists", impl.Binding{Vars: []int64{}, Terms: [][]int64{}}, impl.OK},
		{"one variable", binds("A", "e"), impl.OK},
		{"a variable to itself", binds("A", "A"), impl.OK},
		{"a variable that is in its own term", binds("A", "i(A)"), impl.OK},
		{"some variables with others left out", binds("B", "m(A,L)", "D", "i(B)", "L", "a"), impl.OK},
		{"MaxVars", impl.Binding{Vars: twelve, Terms: terms(12)}, impl.OK},
		{"one more than MaxVars", impl.Binding{Vars: append(slices.Clone(twelve), 12), Terms: terms(13)}, impl.ErrMany},
		{"one more than MaxVars, the last one twice", impl.Binding{Vars: append(slices.Clone(twelve), 11), Terms: terms(13)}, impl.ErrMany},
		{"very many", impl.Binding{Vars: make([]int64, 70000), Terms: terms(70000)}, impl.ErrMany},
		{"a variable without a term", impl.Binding{Vars: []int64{0}}, impl.ErrMany},
		{"a term without a variable", impl.Binding{Terms: terms(1)}, impl.ErrMany},
		{"one term too few", impl.Binding{Vars: []int64{0, 1}, Terms: terms(1)}, impl.ErrMany},
		{"one term too many", impl.Binding{Vars: []int64{0, 1}, Terms: terms(3)}, impl.ErrMany},
		{"MaxVars and one term more", impl.Binding{Vars: twelve, Terms: terms(13)}, impl.ErrMany},
		{"MaxVars and one term less", impl.Binding{Vars: twelve, Terms: terms(11)}, impl.ErrMany},
		{"one more than MaxVars with MaxVars terms", impl.Binding{Vars: append(slices.Clone(twelve), 12), Terms: terms(12)}, impl.ErrMany},
		{"a variable just below 0", impl.Binding{Vars: []int64{-1}, Terms: terms(1)}, impl.ErrRange},
		{"the variable 0", impl.Binding{Vars: []int64{0}, Terms: terms(1)}, impl.OK},
		{"the variable MaxVars - 1", impl.Binding{Vars: []int64{11}, Terms: terms(1)}, impl.OK},
		{"the variable MaxVars", impl.Binding{Vars: []int64{12}, Terms: terms(1)}, impl.ErrRange},
		{"the least number", impl.Binding{Vars: []int64{math.MinInt64}, Terms: terms(1)}, impl.ErrRange},
		{"the greatest number", impl.Binding{Vars: []int64{math.MaxInt64}, Terms: terms(1)}, impl.ErrRange},
		{"a node instead of a variable's number", impl.Binding{Vars: []int64{-2}, Terms: terms(1)}, impl.ErrRange},
		{"a variable twice", impl.Binding{Vars: []int64{0, 0}, Terms: terms(2)}, impl.ErrForm},
		{"variables that fall", impl.Binding{Vars: []int64{1, 0}, Terms: terms(2)}, impl.ErrForm},
		{"variables that rise and fall", impl.Binding{Vars: []int64{0, 2, 1}, Terms: terms(3)}, impl.ErrForm},
		{"variables that rise and stay", impl.Binding{Vars: []int64{0, 1, 1}, Terms: terms(3)}, impl.ErrForm},
		{"MaxVars that fall at the end", impl.Binding{Vars: []int64{0, 1, 2, 3, 4, 5, 6, 7, 8, 9, 11, 10}, Terms: terms(12)}, impl.ErrForm},
		{"a term without a node", impl.Binding{Vars: []int64{0}, Terms: [][]int64{nil}}, impl.ErrMany},
		{"a term of MaxNodes", impl.Binding{Vars: []int64{0}, Terms: [][]int64{chain(24)}}, impl.OK},
		{"a term of one node more", impl.Binding{Vars: []int64{0}, Terms: [][]int64{chain(25)}}, impl.ErrMany},
		{"a term with a node that is none", impl.Binding{Vars: []int64{0}, Terms: [][]int64{{4}}}, impl.ErrRange},
		{"a term with a variable that is none", impl.Binding{Vars: []int64{0}, Terms: [][]int64{{-13}}}, impl.ErrRange},
		{"a term without its argument", impl.Binding{Vars: []int64{0}, Terms: [][]int64{{1}}}, impl.ErrForm},
		{"the last term without its argument", impl.Binding{Vars: []int64{0, 1}, Terms: [][]int64{{0}, {2, 0}}}, impl.ErrForm},
	} {
		mustBe(t, "BindingFault of "+c.what, impl.BindingFault(s, c.b), c.code)
		mustBe(t, "ApplyBinding of "+c.what, impl.ApplyBinding(s, c.b, []int64{3}).Code, c.code)
		mustBe(t, "ThenBinding of "+c.what, impl.ThenBinding(s, c.b, impl.Binding{}).Code, c.code)
		mustBe(t, "ThenBinding of nothing and "+c.what, impl.ThenBinding(s, impl.Binding{}, c.b).Code, c.code)
	}
}

func TestBindingFaultAsksCodesInTheirOrder(t *testing.T) {
	s, noConstant := exampleSignature(), signature(impl.Symbol{Name: "i", Arity: 1})
	for _, c := range []struct {
		what string
		s    impl.Signature
		b    impl.Binding
		code int64
	}{
		{"the signature ahead of the lengths", noConstant, impl.Binding{Vars: []int64{0}}, impl.ErrNone},
		{"the signature of a binding of nothing", noConstant, impl.Binding{}, impl.ErrNone},
		{"no symbol at all", impl.Signature{}, binds("A", "A"), impl.ErrMany},
		{"the lengths ahead of a variable", s, impl.Binding{Vars: []int64{12}}, impl.ErrMany},
		{"the lengths ahead of a term", s, impl.Binding{Vars: []int64{0, 1}, Terms: [][]int64{{9}}}, impl.ErrMany},
		{"too many ahead of those that do not rise", s, impl.Binding{Vars: make([]int64, 13), Terms: slices.Repeat([][]int64{{9}}, 13)}, impl.ErrMany},
		{"a variable ahead of its own term", s, impl.Binding{Vars: []int64{12}, Terms: [][]int64{{}}}, impl.ErrRange},
		{"a variable below 0 ahead of its own term", s, impl.Binding{Vars: []int64{-1}, Terms: [][]int64{{2, 0}}}, impl.ErrRange},
		{"the first term ahead of the second variable", s, impl.Binding{Vars: []int64{0, 12}, Terms: [][]int64{{2, 0}, {0}}}, impl.ErrForm},
		{"the first term, too long, ahead of the second variable", s, impl.Binding{Vars: []int64{0, 12}, Terms: [][]int64{chain(25), {0}}}, impl.ErrMany},
		{"the first variable ahead of the second term", s, impl.Binding{Vars: []int64{12, 13}, Terms: [][]int64{{0}, {2, 0}}}, impl.ErrRange},
		{"the first term ahead of the second one", s, impl.Binding{Vars: []int64{0, 1}, Terms: [][]int64{{2, 0}, {}}}, impl.ErrForm},
		{"the first term ahead of the second one, the other way", s, impl.Binding{Vars: []int64{0, 1}, Terms: [][]int64{{}, {2, 0}}}, impl.ErrMany},
		{"a variable ahead of those that do not rise", s, impl.Binding{Vars: []int64{1, 0, 12}, Terms: [][]int64{{0}, {0}, {0}}}, impl.ErrRange},
		{"a variable that falls below 0", s, impl.Binding{Vars: []int64{0, -1}, Terms: [][]int64{{0}, {0}}}, impl.ErrRange},
		{"the last term ahead of those that do not rise", s, impl.Binding{Vars: []int64{1, 0}, Terms: [][]int64{{0}, {}}}, impl.ErrMany},
		{"the last node ahead of those that do not rise", s, impl.Binding{Vars: []int64{1, 1}, Terms: [][]int64{{0}, {4}}}, impl.ErrRange},
	} {
		mustBe(t, c.what, impl.BindingFault(c.s, c.b), c.code)
		mustBe(t, c.what+", of ApplyBinding, ahead of the term", impl.ApplyBinding(c.s, c.b, []int64{2, 9}), impl.TermResult{Code: c.code})
		mustBeBinding(t, c.what+", of ThenBinding, ahead of the second one", impl.ThenBinding(c.s, c.b, impl.Binding{Vars: []int64{0}, Terms: [][]int64{{2}}}), bindingCode(c.code))
		mustBeBinding(t, c.what+", of ThenBinding, behind the first one", impl.ThenBinding(c.s, impl.Binding{}, c.b), bindingCode(c.code))
	}
}

// bindingsWithFaults puts variables and terms of all kinds together, those with a fault too.
func bindingsWithFaults() []impl.Binding {
	list := []impl.Binding{}
	terms := [][]int64{{0}, {2, -1, -2}, {}, {9}, {1}}
	for length := range 4 {
		for i, vars := range listsOver([]int64{-1, 0, 1, 11, 12}, length) {
			for j, some := range listsOver(terms, min(length, 2)) {
				if length == 3 {
					some = append(some, terms[(i+j)%len(terms)])
				}
				list = append(list, impl.Binding{Vars: vars, Terms: some})
			}
		}
	}
	return list
}

func TestBindingsWithFaults(t *testing.T) {
	s := exampleSignature()
	for _, b := range bindingsWithFaults() {
		checkApply(t, s, b, []int64{2, -1, 1, -2})
		checkApply(t, s, b, []int64{2, -1})
		checkThen(t, s, b, binds("A", "i(B)"))
		checkThen(t, s, binds("A", "i(B)"), b)
	}
	for _, s := range fewSignatures() {
		for _, b := range []impl.Binding{{}, binds("A", "e"), binds("A", "B", "B", "i(a)"), {Vars: []int64{1, 0}, Terms: [][]int64{{0}, {0}}}, {Vars: []int64{12}}} {
			for _, term := range someTerms() {
				checkApply(t, s, b, term)
			}
			checkThen(t, s, b, binds("A", "e"))
			checkThen(t, s, binds("A", "e"), b)
		}
	}
}

func TestApplyBindingKnownValues(t *testing.T) {
	s := exampleSignature()
	for _, c := range []struct {
		what       string
		b          impl.Binding
		term, want string
	}{
		{"nothing to a variable", impl.Binding{}, "A", "A"},
		{"nothing to a term", impl.Binding{}, "m(A,i(L))", "m(A,i(L))"},
		{"a variable alone", binds("A", "i(e)"), "A", "i(e)"},
		{"another variable", binds("A", "i(e)"), "B", "B"},
		{"a term without variables", binds("A", "i(e)"), "m(a,i(e))", "m(a,i(e))"},
		{"one of two", binds("B", "i(a)"), "m(B,C)", "m(i(a),C)"},
		{"a variable twice", binds("A", "m(e,B)"), "m(A,i(A))", "m(m(e,B),i(m(e,B)))"},
		{"the last variable", binds("L", "a"), "m(L,K)", "m(a,K)"},
		{"what comes in is not looked at again", binds("A", "B", "B", "e"), "m(A,B)", "m(B,e)"},
		{"two that change places", binds("A", "B", "B", "A"), "m(A,i(B))", "m(B,i(A))"},
		{"a variable in its own term", binds("A", "i(A)"), "m(A,A)", "m(i(A),i(A))"},
		{"a row of three", binds("A", "i(B)", "B", "i(C)", "C", "i(A)"), "m(A,m(B,C))", "m(i(B),m(i(C),i(A)))"},
		{"variables that are not there", binds("C", "e", "D", "a"), "m(A,B)", "m(A,B)"},
	} {
		mustBe(t, "ApplyBinding: "+c.what, impl.ApplyBinding(s, c.b, read(c.term)), impl.TermResult{Term: read(c.want)})
	}
	all := impl.Binding{}
	for variable := range int64(12) {
		all.Vars, all.Terms = append(all.Vars, variable), append(all.Terms, []int64{variable - 12})
	}
	mustBe(t, "MaxVars variables at once", impl.ApplyBinding(s, all, read("m(A,m(B,m(G,m(K,L))))")), impl.TermResult{Term: read("m(L,m(K,m(F,m(B,A))))")})
}

func TestApplyBindingFillsMaxNodesAndNoMore(t *testing.T) {
	s := exampleSignature()
	many := impl.TermResult{Code: impl.ErrMany}
	mustBe(t, "MaxNodes for a variable", impl.ApplyBinding(s, impl.Binding{Vars: []int64{0}, Terms: [][]int64{chain(24)}}, []int64{-1}), impl.TermResult{Term: chain(24)})
	mustBe(t, "one more", impl.ApplyBinding(s, impl.Binding{Vars: []int64{0}, Terms: [][]int64{chain(24)}}, []int64{1, -1}), many)
	mustBe(t, "MaxNodes by one inside", impl.ApplyBinding(s, impl.Binding{Vars: []int64{0}, Terms: [][]int64{chain(23)}}, []int64{1, -1}), impl.TermResult{Term: chain(24)})
	mustBe(t, "MaxNodes by two", impl.ApplyBinding(s, numberedBinding(1, chain(11)...), []int64{1, 2, -1, -1}), impl.TermResult{Term: slices.Concat([]int64{1, 2}, chain(11), chain(11))})
	mustBe(t, "one more by two", impl.ApplyBinding(s, numberedBinding(1, chain(12)...), []int64{2, -1, -1}), many)
	mustBe(t, "MaxNodes that stay", impl.ApplyBinding(s, numberedBinding(12, 3), fullComb()), impl.TermResult{Term: append(slices.Concat([]int64{1}, slices.Repeat([]int64{2}, 11)), slices.Repeat([]int64{3}, 12)...)})
	mustBe(t, "MaxNodes with one that grows", impl.ApplyBinding(s, numberedBinding(12, 1, 3), fullComb()), many)
	mustBe(t, "MaxNodes with one that is not bound", impl.ApplyBinding(s, impl.Binding{Vars: []int64{1}, Terms: [][]int64{chain(24)}}, fullComb()), impl.TermResult{Term: fullComb()})
	mustBe(t, "as great as it can become", impl.ApplyBinding(s, numberedBinding(12, chain(24)...), varied(-1, -2, -3, -4, -5, -6, -7, -8, -9, -10, -11, -12)), many)
	for size := 1; size <= 24; size++ {
		for _, term := range [][]int64{{-1}, {1, -1}, {2, -1, -1}, {2, -1, 2, 0, -1}, {2, 2, -1, -1, -1}, leftComb(5), leftComb(11)} {
			checkApply(t, s, numberedBinding(1, chain(size)...), term)
		}
	}
}

func TestApplyBindingAsksCodesInTheirOrder(t *testing.T) {
	s := exampleSignature()
	mustBe(t, "the binding ahead of the term", impl.ApplyBinding(s, impl.Binding{Vars: []int64{1, 0}, Terms: [][]int64{{0}, {0}}}, nil), impl.TermResult{Code: impl.ErrForm})
	mustBe(t, "the binding, which is not asked, ahead of the term", impl.ApplyBinding(s, impl.Binding{Vars: []int64{12}, Terms: [][]int64{{0}}}, []int64{2, 0}), impl.TermResult{Code: impl.ErrRange})
	mustBe(t, "the term ahead of how great it becomes", impl.ApplyBinding(s, numberedBinding(1, chain(24)...), []int64{2, -1}), impl.TermResult{Code: impl.ErrForm})
	mustBe(t, "a node ahead of how great it becomes", impl.ApplyBinding(s, numberedBinding(1, chain(24)...), []int64{2, -1, 4}), impl.TermResult{Code: impl.ErrRange})
	mustBe(t, "a term without a node", impl.ApplyBinding(s, binds("A", "e"), nil), impl.TermResult{Code: impl.ErrMany})
	mustBe(t, "a term that would be one when it is bound", impl.ApplyBinding(s, binds("A", "e"), chain(25)), impl.TermResult{Code: impl.ErrMany})
	mustBe(t, "a signature's fault first", impl.ApplyBinding(signature(impl.Symbol{Name: "i", Arity: 1}), impl.Binding{Vars: []int64{1}}, nil), impl.TermResult{Code: impl.ErrNone})
}

func TestApplyBindingOfManyTerms(t *testing.T) {
	s := exampleSignature()
	var numbers numbersByRule
	codes := map[int64]int{}
	for range 20000 {
		b, term := numbers.binding(1+numbers.below(5), 12), numbers.term(1+numbers.below(16), 5)
		checkApply(t, s, b, term)
		codes[wantApply(s, b, term).Code]++
	}
	if codes[impl.OK] < 1000 || codes[impl.ErrMany] < 1000 {
		t.Errorf("some codes hardly came: %v", codes)
	}
}

func TestMatchTermKnownValues(t *testing.T) {
	s := exampleSignature()
	for _, c := range []struct {
		pattern, term string
		want          impl.Binding
	}{
		{"m(A,B)", "m(e,i(a))", binds("A", "e", "B", "i(a)")},
		{"A", "A", binds("A", "A")},
		{"A", "B", binds("A", "B")},
		{"A", "i(A)", binds("A", "i(A)")},
		{"L", "m(a,L)", binds("L", "m(a,L)")},
		{"e", "e", impl.Binding{}},
		{"m(i(e),a)", "m(i(e),a)", impl.Binding{}},
		{"m(A,A)", "m(e,e)", binds("A", "e")},
		{"m(A,A)", "m(i(B),i(B))", binds("A", "i(B)")},
		{"m(A,A)", "m(A,A)", binds("A", "A")},
		{"m(A,i(A))", "m(m(e,B),i(m(e,B)))", binds("A", "m(e,B)")},
		{"m(B,A)", "m(A,B)", binds("A", "B", "B", "A")},
		{"m(L,m(B,G))", "m(e,m(a,i(e)))", binds("B", "a", "G", "i(e)", "L", "e")},
		{"m(A,m(B,A))", "m(m(a,B),m(A,m(a,B)))", binds("A", "m(a,B)", "B", "A")},
		{"i(i(A))", "i(i(i(e)))", binds("A", "i(e)")},
		{"m(m(A,B),C)", "m(m(m(a,e),i(a)),e)", binds("A", "m(a,e)", "B", "i(a)", "C", "e")},
		{"m(A,e)", "m(m(a,a),e)", binds("A", "m(a,a)")},
	} {
		mustBeBinding(t, "MatchTerm of "+c.pattern+" and "+c.term, impl.MatchTerm(s, read(c.pattern), read(c.term)), impl.BindingResult{Binding: c.want})
	}
	all := []int64{-12, -1, -11, -2, -10, -3, -9, -4, -8, -5, -7, -6}
	mustBeBinding(t, "MaxVars variables", impl.MatchTerm(s, varied(all...), varied(slices.Repeat([]int64{3}, 12)...)), impl.BindingResult{Binding: numberedBinding(12, 3)})
	mustBeBinding(t, "MaxNodes for a variable", impl.MatchTerm(s, []int64{-1}, chain(24)), impl.BindingResult{Binding: numberedBinding(1, chain(24)...)})
}

func TestMatchTermOfTermsThatDoNotMatch(t *testing.T) {
	s := exampleSignature()
	for _, c := range [][2]string{
		{"e", "a"}, {"e", "A"}, {"i(A)", "A"}, {"i(A)", "B"}, {"i(A)", "e"}, {"i(A)", "m(A,A)"}, {"m(A,B)", "i(e)"},
		{"m(A,A)", "m(e,a)"}, {"m(A,A)", "m(A,B)"}, {"m(A,A)", "m(B,A)"}, {"m(A,A)", "m(e,i(e))"}, {"m(A,A)", "m(i(e),e)"}, {"m(A,m(B,A))", "m(e,m(e,a))"},
		{"m(A,i(A))", "m(e,e)"}, {"m(A,i(A))", "m(i(e),i(i(a)))"}, {"m(e,A)", "m(a,e)"}, {"m(e,A)", "m(B,e)"}, {"m(A,e)", "m(e,a)"}, {"m(A,e)", "m(e,B)"},
		{"i(i(A))", "i(A)"}, {"i(i(A))", "i(e)"}, {"i(e)", "i(A)"}, {"m(m(A,B),C)", "m(A,m(B,C))"}, {"m(A,m(B,C))", "m(m(A,B),C)"}, {"m(i(A),i(A))", "m(i(e),i(i(e)))"},
	} {
		mustBeBinding(t, "MatchTerm of "+c[0]+" and "+c[1], impl.MatchTerm(s, read(c[0]), read(c[1])), bindingCode(impl.ErrNone))
	}
	mustBeBinding(t, "a pattern greater than the term", impl.MatchTerm(s, chain(24), chain(23)), bindingCode(impl.ErrNone))
	mustBeBinding(t, "a term greater than the pattern", impl.MatchTerm(s, chain(23), chain(24)), bindingCode(impl.ErrNone))
}

func TestMatchAndUnifyAskCodesInTheirOrder(t *testing.T) {
	s := exampleSignature()
	for _, c := range []struct {
		what string
		s    impl.Signature
		a, b []int64
		code int64
	}{
		{"the first one ahead of the second one", s, []int64{2, 0}, nil, impl.ErrForm},
		{"the first one ahead of the second one, no node", s, nil, []int64{2, 0}, impl.ErrMany},
		{"the first one ahead of the second one, a node", s, []int64{4}, chain(25), impl.ErrRange},
		{"the second one ahead of none", s, []int64{0}, []int64{1}, impl.ErrForm},
		{"the second one, without a node", s, []int64{-1}, nil, impl.ErrMany},
		{"the second one, too long", s, []int64{-1}, chain(25), impl.ErrMany},
		{"the second one, a node that is none", s, []int64{-1}, []int64{-13}, impl.ErrRange},
		{"the second one of which only the first node is asked", s, []int64{0}, []int64{3, 3}, impl.ErrForm},
		{"two with the same fault", s, []int64{9}, []int64{9}, impl.ErrRange},
		{"two empty ones", s, nil, nil, impl.ErrMany},
		{"a signature's fault first", signature(impl.Symbol{Name: "i", Arity: 1}), nil, []int64{2}, impl.ErrNone},
		{"no symbol at all", impl.Signature{}, []int64{-1}, []int64{-1}, impl.ErrMany},
		{"two constants", s, []int64{0}, []int64{3}, impl.ErrNone},
	} {
		mustBeBinding(t, "MatchTerm: "+c.what, impl.MatchTerm(c.s, c.a, c.b), bindingCode(c.code))
		mustBeBinding(t, "UnifyTerms: "+c.what, impl.UnifyTerms(c.s, c.a, c.b), bindingCode(c.code))
	}
	for _, s := range fewSignatures() {
		for _, a := range someTerms() {
			for _, b := range someTerms() {
				checkMatchAndUnify(t, s, a, b)
			}
		}
	}
}

func TestMatchAndUnifyAllSmallTerms(t *testing.T) {
	s := exampleSignature()
	terms := ruleTerms(4, -1, -2)
	for _, a := range terms {
		for _, b := range terms {
			checkMatchAndUnify(t, s, a, b)
		}
	}
	terms = ruleTerms(3, -1, -2, -3, -12)
	for _, a := range terms {
		for _, b := range terms {
			checkMatchAndUnify(t, s, a, b)
		}
	}
}

func TestMatchAndUnifyInEverySignature(t *testing.T) {
	for _, s := range goodSignatures() {
		terms := slices.Concat(termsOver(s, []int64{-1, -2}, 1), termsOver(s, []int64{-1, -2}, 2), termsOver(s, []int64{-1, -2}, 3))
		terms = terms[:min(len(terms), 40)]
		for _, a := range terms {
			for _, b := range terms {
				checkMatchAndUnify(t, s, a, b)
			}
		}
	}
}

func TestUnifyTermsKnownValues(t *testing.T) {
	s := exampleSignature()
	for _, c := range []struct {
		a, b string
		want impl.Binding
	}{
		{"m(A,i(B))", "m(i(C),A)", binds("A", "i(C)", "B", "C")},
		{"A", "A", impl.Binding{}},
		{"A", "B", binds("A", "B")},
		{"B", "A", binds("B", "A")},
		{"L", "A", binds("L", "A")},
		{"A", "i(B)", binds("A", "i(B)")},
		{"i(B)", "A", binds("A", "i(B)")},
		{"e", "A", binds("A", "e")},
		{"m(A,i(A))", "m(A,i(A))", impl.Binding{}},
		{"m(e,i(a))", "m(e,i(a))", impl.Binding{}},
		{"i(A)", "i(A)", impl.Binding{}},
		{"m(A,B)", "m(B,A)", binds("A", "B")},
		{"m(A,B)", "m(B,C)", binds("A", "C", "B", "C")},
		{"m(A,m(B,C))", "m(B,m(C,A))", binds("A", "C", "B", "C")},
		{"m(A,m(B,C))", "m(B,m(C,D))", binds("A", "D", "B", "D", "C", "D")},
		{"m(A,A)", "m(i(B),i(e))", binds("A", "i(e)", "B", "e")},
		{"m(A,B)", "m(i(B),e)", binds("A", "i(e)", "B", "e")},
		{"m(A,m(A,B))", "m(C,m(i(D),B))", binds("A", "i(D)", "C", "i(D)")},
		{"m(m(A,e),B)", "m(C,i(C))", binds("B", "i(m(A,e))", "C", "m(A,e)")},
		{"m(A,m(B,e))", "m(m(B,B),m(a,C))", binds("A", "m(a,a)", "B", "a", "C", "e")},
	} {
		mustBeBinding(t, "UnifyTerms of "+c.a+" and "+c.b, impl.UnifyTerms(s, read(c.a), read(c.b)), impl.BindingResult{Binding: c.want})
	}
	// The arguments of the first pair are asked ahead of the second pair: the other way A would be B, and C would be B.
	mustBeBinding(t, "arguments wait ahead of all other pairs", impl.UnifyTerms(s, read("m(i(A),A)"), read("m(i(B),C)")), impl.BindingResult{Binding: binds("A", "C", "B", "C")})
	mustBeBinding(t, "first arguments wait ahead of second ones", impl.UnifyTerms(s, read("m(m(A,B),A)"), read("m(m(B,C),D)")), impl.BindingResult{Binding: binds("A", "D", "B", "D", "C", "D")})
}

func TestUnifyTermsOfTermsThatCannotBecomeOne(t *testing.T) {
	s := exampleSignature()
	for _, c := range [][2]string{
		{"e", "a"}, {"e", "i(A)"}, {"i(A)", "e"}, {"i(A)", "m(A,B)"}, {"m(A,B)", "i(C)"},
		{"A", "i(A)"}, {"i(A)", "A"}, {"A", "m(e,A)"}, {"A", "m(A,A)"}, {"L", "i(i(L))"}, {"i(A)", "i(i(A))"}, {"m(e,A)", "m(e,i(A))"},
		{"m(A,B)", "m(i(B),i(A))"}, {"m(A,A)", "m(B,i(B))"}, {"m(A,m(A,B))", "m(C,m(i(C),B))"}, {"m(A,m(B,C))", "m(i(B),m(i(C),i(A)))"}, {"m(A,B)", "m(B,i(A))"}, {"m(A,B)", "m(m(B,e),i(A))"},
		{"m(A,A)", "m(e,a)"}, {"m(A,A)", "m(i(e),i(a))"}, {"m(A,m(A,B))", "m(e,m(B,a))"}, {"m(A,e)", "m(i(B),a)"}, {"m(e,A)", "m(a,i(A))"}, {"m(A,B)", "m(B,m(A,A))"},
	} {
		mustBeBinding(t, "UnifyTerms of "+c[0]+" and "+c[1], impl.UnifyTerms(s, read(c[0]), read(c[1])), bindingCode(impl.ErrNone))
	}
}

func TestUnifyTermsThatGrowTooGreat(t *testing.T) {
	s := exampleSignature()
	i := func(count int, inside string) string {
		return strings.Repeat("i(", count) + inside + strings.Repeat(")", count)
	}
	for _, c := range []struct {
		what, a, b string
		code       int64
	}{
		{"a term of the binding becomes too great", "m(A,m(B,m(C,D)))", "m(m(B,B),m(m(C,C),m(m(D,D),m(E,E))))", impl.ErrMany},
		{"the same, the sides changed", "m(m(B,B),m(m(C,C),m(m(D,D),m(E,E))))", "m(A,m(B,m(C,D)))", impl.ErrMany},
		{"the first term of a pair becomes too great", "m(D,m(C,m(B,m(B,B))))", "m(m(E,E),m(m(D,D),m(m(C,C),A)))", impl.ErrMany},
		{"the second term of a pair becomes too great", "m(D,m(C,m(B,A)))", "m(m(E,E),m(m(D,D),m(m(C,C),m(B,B))))", impl.ErrMany},
		{"one step less", "m(D,m(C,B))", "m(m(E,E),m(m(D,D),m(C,C)))", impl.OK},
		{"one step less, of the binding", "m(B,m(C,D))", "m(m(C,C),m(m(D,D),m(E,E)))", impl.OK},
		{"too great ahead of first nodes that are not the same", "m(D,m(C,m(B,m(B,B))))", "m(m(E,E),m(m(D,D),m(m(C,C),e)))", impl.ErrMany},
		{"the second one too great ahead of first nodes that are not the same", "m(D,m(C,m(B,e)))", "m(m(E,E),m(m(D,D),m(m(C,C),m(B,B))))", impl.ErrMany},
		{"the second one too great ahead of a variable that is in it", "m(D,m(C,m(B,E)))", "m(m(E,E),m(m(D,D),m(m(C,C),m(B,B))))", impl.ErrMany},
		{"both too great, though they are the same", "m(D,m(C,m(B,m(B,B))))", "m(m(E,E),m(m(D,D),m(m(C,C),m(B,B))))", impl.ErrMany},
		{"first nodes that are not the same ahead of a pair that becomes too great", "m(e,m(D,m(C,m(B,A))))", "m(a,m(m(E,E),m(m(D,D),m(m(C,C),m(B,B)))))", impl.ErrNone},
		{"a variable in its own term ahead of a binding that becomes too great", "m(A,B)", "m(m(B,B)," + i(12, "B") + ")", impl.ErrNone},
		{"MaxNodes in the binding", "m(A,B)", "m(i(m(B,B))," + i(10, "a") + ")", impl.OK},
		{"one more in the binding", "m(A,B)", "m(m(B,B)," + i(11, "a") + ")", impl.ErrMany},
		{"one more in the binding, by a variable on the right", "m(m(B,B)," + i(11, "a") + ")", "m(A,B)", impl.ErrMany},
		{"MaxNodes in a pair", "m(B,A)", "m(" + i(10, "a") + ",i(m(B,B)))", impl.OK},
		{"one more in a pair", "m(B,A)", "m(" + i(11, "a") + ",m(B,B))", impl.ErrMany},
		{"one more in the first one of a pair", "m(B,m(B,B))", "m(" + i(11, "a") + ",A)", impl.ErrMany},
	} {
		got, want := impl.UnifyTerms(s, read(c.a), read(c.b)), wantUnify(s, read(c.a), read(c.b))
		mustBe(t, "the code of UnifyTerms: "+c.what, got.Code, c.code)
		mustBeBinding(t, "UnifyTerms: "+c.what, got, want)
	}
	full := impl.UnifyTerms(s, read("m(A,B)"), read("m(i(m(B,B)),"+i(10, "a")+")"))
	mustBeBinding(t, "a binding with MaxNodes nodes", full, impl.BindingResult{Binding: impl.Binding{Vars: []int64{0, 1}, Terms: [][]int64{slices.Concat([]int64{1, 2}, chain(11), chain(11)), chain(11)}}})
	mustBeBinding(t, "MaxNodes for a variable", impl.UnifyTerms(s, []int64{-12}, fullComb()), impl.BindingResult{Binding: impl.Binding{Vars: []int64{11}, Terms: [][]int64{fullComb()}}})
}

func TestUnifyTermsWithMaxVars(t *testing.T) {
	s := exampleSignature()
	all := []int64{-1, -2, -3, -4, -5, -6, -7, -8, -9, -10, -11, -12}
	mustBeBinding(t, "all to one constant", impl.UnifyTerms(s, varied(all...), varied(slices.Repeat([]int64{0}, 12)...)), impl.BindingResult{Binding: numberedBinding(12, 0)})
	turned := append(slices.Clone(all[1:]), all[0])
	mustBeBinding(t, "each one to the next one", impl.UnifyTerms(s, varied(all...), varied(turned...)), impl.BindingResult{Binding: numberedBinding(11, -12)})
	backwards := slices.Clone(all)
	slices.Reverse(backwards)
	checkMatchAndUnify(t, s, varied(all...), varied(backwards...))
	checkMatchAndUnify(t, s, varied(backwards...), varied(turned...))
}

func TestUnifyTermsOfManyTerms(t *testing.T) {
	s := exampleSignature()
	var numbers numbersByRule
	codes := map[int64]int{}
	for range 20000 {
		variables := 2 + numbers.below(5)
		a, b := numbers.term(1+numbers.below(18), variables), numbers.term(1+numbers.below(18), variables)
		checkMatchAndUnify(t, s, a, b)
		codes[wantUnify(s, a, b).Code]++
	}
	// Where variables stand for terms with others of them twice, more grow too great.
	orders := permutations(4)
	for range 20000 {
		left, right := []int64{}, []int64{}
		for _, variable := range orders[numbers.below(len(orders))] {
			one, other := []int64{-1 - variable}, numbers.term(3+2*numbers.below(2), 1)
			for place, node := range other {
				if isKnownVariable(node) {
					other[place] = -2 - variable
				}
			}
			if numbers.below(3) == 0 {
				one, other = other, one
			}
			left, right = append(left, one...), append(right, other...)
		}
		a, b := slices.Concat([]int64{2, 2, 2}, left), slices.Concat([]int64{2, 2, 2}, right)
		checkMatchAndUnify(t, s, a, b)
		codes[wantUnify(s, a, b).Code]++
	}
	for _, code := range []int64{impl.OK, impl.ErrNone, impl.ErrMany} {
		if codes[code] < 300 {
			t.Errorf("some codes hardly came: %v", codes)
		}
	}
}

func TestShiftTermKnownValues(t *testing.T) {
	s := exampleSignature()
	ranged := impl.TermResult{Code: impl.ErrRange}
	for _, c := range []struct {
		what, term string
		by         int64
		want       impl.TermResult
	}{
		{"by 0", "m(A,i(L))", 0, impl.TermResult{Term: read("m(A,i(L))")}},
		{"by 1", "m(A,i(C))", 1, impl.TermResult{Term: read("m(B,i(D))")}},
		{"by MaxRuleVars", "m(i(A),a)", 6, impl.TermResult{Term: read("m(i(G),a)")}},
		{"by MaxVars - 1", "m(A,A)", 11, impl.TermResult{Term: read("m(L,L)")}},
		{"by MaxVars - 1, one that leaves its bounds", "m(A,B)", 11, ranged},
		{"by MaxVars", "A", 12, ranged},
		{"by MaxVars without a variable", "m(e,a)", 12, ranged},
		{"by MaxVars - 1 without a variable", "m(e,a)", 11, impl.TermResult{Term: read("m(e,a)")}},
		{"by just below 0", "m(B,B)", -1, ranged},
		{"by just below 0 without a variable", "e", -1, ranged},
		{"to MaxVars - 1", "m(F,e)", 6, impl.TermResult{Term: read("m(L,e)")}},
		{"to MaxVars", "m(G,e)", 6, ranged},
		{"the last variable by 0", "L", 0, impl.TermResult{Term: read("L")}},
		{"the last variable by 1", "L", 1, ranged},
		{"one variable of two to MaxVars", "m(A,i(L))", 1, ranged},
		{"the greatest number", "A", math.MaxInt64, ranged},
		{"the greatest number but one, of the second variable", "B", math.MaxInt64 - 1, ranged},
		{"the greatest number without a variable", "e", math.MaxInt64, ranged},
		{"the least number", "L", math.MinInt64, ranged},
		{"the least number without a variable", "e", math.MinInt64, ranged},
		{"by less than all variables", "L", -11, ranged},
	} {
		mustBe(t, "ShiftTerm "+c.what, impl.ShiftTerm(s, read(c.term), c.by), c.want)
	}
	mustBe(t, "MaxNodes nodes", impl.ShiftTerm(s, fullComb(), 11), impl.TermResult{Term: slices.Concat([]int64{1}, slices.Repeat([]int64{2}, 11), []int64{-12}, slices.Repeat([]int64{3}, 11))})
}

func TestShiftTermAsksCodesInTheirOrder(t *testing.T) {
	s := exampleSignature()
	mustBe(t, "the term ahead of by", impl.ShiftTerm(s, []int64{2, 0}, 12), impl.TermResult{Code: impl.ErrForm})
	mustBe(t, "no node ahead of by", impl.ShiftTerm(s, nil, -1), impl.TermResult{Code: impl.ErrMany})
	mustBe(t, "the term ahead of a variable", impl.ShiftTerm(s, []int64{2, -12}, 1), impl.TermResult{Code: impl.ErrForm})
	mustBe(t, "too long ahead of a variable", impl.ShiftTerm(s, append(slices.Repeat([]int64{1}, 24), -12), 1), impl.TermResult{Code: impl.ErrMany})
	mustBe(t, "a variable that is none", impl.ShiftTerm(s, []int64{-13}, 0), impl.TermResult{Code: impl.ErrRange})
	mustBe(t, "a signature's fault first", impl.ShiftTerm(signature(impl.Symbol{Name: "i", Arity: 1}), nil, 99), impl.TermResult{Code: impl.ErrNone})
	shifts := append([]int64{math.MinInt64, math.MinInt64 + 1, -13, -12, -2, -1, 12, 13, 24, 256, 1 << 32, math.MaxInt64 - 12, math.MaxInt64 - 1, math.MaxInt64}, 0, 1, 2, 5, 6, 10, 11)
	for _, s := range fewSignatures() {
		for _, term := range someTerms() {
			for _, by := range shifts {
				mustBe(t, fmt.Sprintf("ShiftTerm of %s by %d in %.60v", brief(term), by, s), impl.ShiftTerm(s, term, by), wantShift(s, term, by))
			}
		}
	}
	for variable := range int64(12) {
		for _, by := range shifts {
			for _, term := range [][]int64{{-1 - variable}, {1, -1 - variable}, {2, -1, -1 - variable}, {2, -1 - variable, 3}} {
				mustBe(t, fmt.Sprintf("ShiftTerm of %v by %d", term, by), impl.ShiftTerm(s, term, by), wantShift(s, term, by))
			}
		}
	}
}

func TestThenBindingKnownValues(t *testing.T) {
	s := exampleSignature()
	for _, c := range []struct {
		what                string
		first, second, want impl.Binding
	}{
		{"nothing and nothing", impl.Binding{}, impl.Binding{}, impl.Binding{}},
		{"nothing ahead", impl.Binding{}, binds("A", "e", "L", "i(A)"), binds("A", "e", "L", "i(A)")},
		{"nothing behind", binds("A", "e", "L", "i(A)"), impl.Binding{}, binds("A", "e", "L", "i(A)")},
		{"one that is turned by the other one", binds("A", "i(B)"), binds("B", "a"), binds("A", "i(a)", "B", "a")},
		{"the same variable", binds("A", "e"), binds("A", "a"), binds("A", "e")},
		{"the same variable, to another one", binds("A", "B"), binds("A", "a"), binds("A", "B")},
		{"the same variable, to itself", binds("A", "A"), binds("A", "a"), binds("A", "a")},
		{"the same variable, in its own term", binds("A", "i(A)"), binds("A", "i(A)"), binds("A", "i(i(A))")},
		{"the same variable and another one", binds("A", "i(B)"), binds("A", "a", "B", "e"), binds("A", "i(e)", "B", "e")},
		{"the same variables", binds("A", "B", "B", "A"), binds("A", "B", "B", "A"), binds("A", "A", "B", "B")},
		{"other variables, ahead", binds("B", "e"), binds("A", "a"), binds("A", "a", "B", "e")},
		{"other variables, between", binds("A", "C", "D", "m(B,A)"), binds("B", "e", "C", "a", "L", "K"), binds("A", "a", "B", "e", "C", "a", "D", "m(e,A)", "L", "K")},
		{"second's terms are not turned", binds("A", "e"), binds("B", "A", "C", "B"), binds("A", "e", "B", "A", "C", "B")},
		{"second's terms are not turned by second", impl.Binding{}, binds("A", "B", "B", "e"), binds("A", "B", "B", "e")},
	} {
		mustBeBinding(t, "ThenBinding: "+c.what, impl.ThenBinding(s, c.first, c.second), impl.BindingResult{Binding: c.want})
	}
	mustBeBinding(t, "MaxVars and MaxVars", impl.ThenBinding(s, numberedBinding(12, 1, -12), numberedBinding(12, 3)), impl.BindingResult{Binding: numberedBinding(12, 1, 3)})
	even, odd := impl.Binding{}, impl.Binding{}
	for variable := range int64(6) {
		even.Vars, even.Terms = append(even.Vars, 2*variable), append(even.Terms, []int64{0})
		odd.Vars, odd.Terms = append(odd.Vars, 2*variable+1), append(odd.Terms, []int64{0})
	}
	mustBeBinding(t, "each second variable, and the others", impl.ThenBinding(s, even, odd), impl.BindingResult{Binding: numberedBinding(12, 0)})
	mustBeBinding(t, "the others, and each second variable", impl.ThenBinding(s, odd, even), impl.BindingResult{Binding: numberedBinding(12, 0)})
}

func TestThenBindingFillsMaxNodesAndNoMore(t *testing.T) {
	s := exampleSignature()
	full := slices.Concat([]int64{1, 2}, chain(11), chain(11))
	mustBeBinding(t, "MaxNodes", impl.ThenBinding(s, binds("A", "i(m(B,B))"), impl.Binding{Vars: []int64{1}, Terms: [][]int64{chain(11)}}), impl.BindingResult{Binding: impl.Binding{Vars: []int64{0, 1}, Terms: [][]int64{full, chain(11)}}})
	mustBeBinding(t, "one more", impl.ThenBinding(s, binds("A", "m(B,B)"), impl.Binding{Vars: []int64{1}, Terms: [][]int64{chain(12)}}), bindingCode(impl.ErrMany))
	mustBeBinding(t, "one more in the last one", impl.ThenBinding(s, binds("A", "B", "C", "m(B,B)"), impl.Binding{Vars: []int64{1}, Terms: [][]int64{chain(12)}}), bindingCode(impl.ErrMany))
	mustBeBinding(t, "one more in a variable that is bound again", impl.ThenBinding(s, binds("A", "m(A,A)"), impl.Binding{Vars: []int64{0}, Terms: [][]int64{chain(12)}}), bindingCode(impl.ErrMany))
	mustBeBinding(t, "MaxNodes that are put nowhere", impl.ThenBinding(s, binds("A", "i(A)"), impl.Binding{Vars: []int64{1}, Terms: [][]int64{chain(24)}}), impl.BindingResult{Binding: impl.Binding{Vars: []int64{0, 1}, Terms: [][]int64{{1, -1}, chain(24)}}})
}

func TestThenBindingAsksCodesInTheirOrder(t *testing.T) {
	s := exampleSignature()
	falling := impl.Binding{Vars: []int64{1, 0}, Terms: [][]int64{{0}, {0}}}
	beyond := impl.Binding{Vars: []int64{12}, Terms: [][]int64{{0}}}
	uneven := impl.Binding{Vars: []int64{0}}
	mustBeBinding(t, "the first one ahead of the second one", impl.ThenBinding(s, falling, beyond), bindingCode(impl.ErrForm))
	mustBeBinding(t, "the first one ahead of the second one, the other way", impl.ThenBinding(s, beyond, falling), bindingCode(impl.ErrRange))
	mustBeBinding(t, "the lengths of the first one", impl.ThenBinding(s, uneven, beyond), bindingCode(impl.ErrMany))
	mustBeBinding(t, "the second one, though the first one binds nothing", impl.ThenBinding(s, impl.Binding{}, beyond), bindingCode(impl.ErrRange))
	mustBeBinding(t, "the second one ahead of what becomes too great", impl.ThenBinding(s, binds("A", "m(B,B)"), impl.Binding{Vars: []int64{1, 1}, Terms: [][]int64{chain(24), {0}}}), bindingCode(impl.ErrForm))
	mustBeBinding(t, "a signature's fault first", impl.ThenBinding(signature(impl.Symbol{Name: "i", Arity: 1}), uneven, uneven), bindingCode(impl.ErrNone))
}

func TestThenBindingOfManyBindings(t *testing.T) {
	s := exampleSignature()
	var numbers numbersByRule
	codes := map[int64]int{}
	for range 20000 {
		first, second := numbers.binding(1+numbers.below(6), 12), numbers.binding(1+numbers.below(6), 12)
		checkThen(t, s, first, second)
		codes[wantThen(s, first, second).Code]++
	}
	if codes[impl.OK] < 1000 || codes[impl.ErrMany] < 300 {
		t.Errorf("some codes hardly came: %v", codes)
	}
}

func TestSameBindingsOfAnyBindings(t *testing.T) {
	list := []impl.Binding{
		{}, {Vars: []int64{0}}, {Terms: [][]int64{{0}}}, {Terms: [][]int64{{}}}, {Terms: [][]int64{{}, {}}}, binds("A", "e"), binds("A", "a"), binds("B", "e"), binds("A", "i(e)"),
		binds("A", "e", "B", "a"), binds("A", "a", "B", "e"), {Vars: []int64{1, 0}, Terms: [][]int64{{3}, {0}}}, {Vars: []int64{0, 0}, Terms: [][]int64{{0}, {0}}},
		{Vars: []int64{-1}, Terms: [][]int64{{0}}}, {Vars: []int64{12}, Terms: [][]int64{{9}}}, {Vars: []int64{0, 1}, Terms: [][]int64{{0, 3}}}, {Vars: []int64{0, 1}, Terms: [][]int64{{0}, {3}, {3}}},
		{Vars: []int64{0}, Terms: [][]int64{{0}, {3}}}, {Vars: []int64{0, 1}, Terms: [][]int64{{0}}}, {Vars: []int64{0}, Terms: [][]int64{{}}}, {Vars: []int64{math.MinInt64}, Terms: [][]int64{{math.MaxInt64}}},
		numberedBinding(13, 0), {Vars: make([]int64, 70000), Terms: make([][]int64, 70000)}, {Vars: make([]int64, 70000), Terms: make([][]int64, 69999)},
	}
	for i, a := range list {
		for j, b := range list {
			again := impl.Binding{Vars: slices.Clone(b.Vars)}
			for _, term := range b.Terms {
				again.Terms = append(again.Terms, slices.Clone(term))
			}
			mustBe(t, fmt.Sprintf("SameBindings of those with the numbers %d and %d", i, j), impl.SameBindings(a, again), i == j)
		}
	}
	mustBe(t, "nil and empty lists", impl.SameBindings(impl.Binding{}, impl.Binding{Vars: []int64{}, Terms: [][]int64{}}), true)
	mustBe(t, "a nil and an empty term", impl.SameBindings(impl.Binding{Terms: [][]int64{nil}}, impl.Binding{Terms: [][]int64{{}}}), true)
}

// bindingsTo makes all bindings of these variables to these terms.
func bindingsTo(variables []int64, terms [][]int64) []impl.Binding {
	list := []impl.Binding{}
	for _, some := range listsOver(terms, len(variables)) {
		list = append(list, impl.Binding{Vars: variables, Terms: some})
	}
	return list
}

func TestP7WhatIsMatchedIsMadeByItsBinding(t *testing.T) {
	s := exampleSignature()
	counts := map[int64]int{}
	for _, pattern := range ruleTerms(4, -1, -2) {
		variables := impl.VarsOf(s, pattern).List
		for _, term := range slices.Concat(ruleTerms(3, -1, -3), [][]int64{read("m(i(a),e)"), read("m(i(a),i(a))"), read("m(m(A,e),m(A,e))"), read("i(i(i(C)))")}) {
			match := impl.MatchTerm(s, pattern, term)
			counts[match.Code]++
			if match.Code == impl.OK {
				mustBe(t, fmt.Sprint("the fault of the binding of ", pattern, term), impl.BindingFault(s, match.Binding), int64(impl.OK))
				mustBe(t, fmt.Sprint("the pattern by its binding ", pattern, term), impl.ApplyBinding(s, match.Binding, pattern), impl.TermResult{Term: term})
				mustBeNumbers(t, fmt.Sprint("what is bound ", pattern, term), impl.IntsResult{List: match.Binding.Vars}, impl.IntsResult{List: variables})
				continue
			}
			mustBeBinding(t, fmt.Sprint("MatchTerm of ", pattern, term), match, bindingCode(impl.ErrNone))
			// Whatever a variable stood for would be a part of the term.
			parts := [][]int64{}
			for place := range term {
				parts = append(parts, impl.SubtermAt(s, term, int64(place)).Term)
			}
			for _, b := range bindingsTo(variables, parts) {
				if impl.SameTerms(impl.ApplyBinding(s, b, pattern).Term, term) {
					t.Errorf("MatchTerm of %v and %v found no binding, but there is %v", pattern, term, b)
				}
			}
		}
	}
	if counts[impl.OK] < 200 || counts[impl.ErrNone] < 200 {
		t.Errorf("some codes hardly came: %v", counts)
	}
}

func TestP7WhatABindingMadeIsMatched(t *testing.T) {
	s := exampleSignature()
	var numbers numbersByRule
	found := 0
	for range 10000 {
		pattern, b := numbers.term(1+numbers.below(10), 4), numbers.binding(4, 5)
		made := impl.ApplyBinding(s, b, pattern)
		if made.Code != impl.OK {
			continue
		}
		found++
		match := impl.MatchTerm(s, pattern, made.Term)
		mustBe(t, fmt.Sprint("MatchTerm of what was made of ", pattern, " by ", b), match.Code, int64(impl.OK))
		mustBe(t, fmt.Sprint("what is made again of ", pattern), impl.ApplyBinding(s, match.Binding, pattern), made)
		for place, variable := range match.Binding.Vars {
			mustBe(t, fmt.Sprint("what stands for ", variable, " in ", pattern), impl.TermResult{Term: match.Binding.Terms[place]}, impl.ApplyBinding(s, b, []int64{-1 - variable}))
		}
		mustBeNumbers(t, fmt.Sprint("what is bound of ", pattern), impl.IntsResult{List: match.Binding.Vars}, impl.VarsOf(s, pattern))
	}
	if found < 3000 {
		t.Errorf("only %d terms were made", found)
	}
}

// mustBeMadeOutOf asks that other does what unified and then other does, to each variable.
func mustBeMadeOutOf(t *testing.T, s impl.Signature, unified impl.Binding, other impl.Binding) {
	t.Helper()
	both := impl.ThenBinding(s, unified, other)
	mustBe(t, fmt.Sprintf("the code of %v and then %v", unified, other), both.Code, int64(impl.OK))
	for variable := range int64(12) {
		alone := []int64{-1 - variable}
		want := impl.ApplyBinding(s, other, alone)
		mustBe(t, fmt.Sprintf("%d by %v, and by %v", variable, unified, other), impl.ApplyBinding(s, other, impl.ApplyBinding(s, unified, alone).Term), want)
		mustBe(t, fmt.Sprintf("%d by %v and then %v", variable, unified, other), impl.ApplyBinding(s, both.Binding, alone), want)
	}
}

func TestP7WhatIsUnifiedBecomesOneTerm(t *testing.T) {
	s := exampleSignature()
	terms := slices.Concat(ruleTerms(3, -1, -2), [][]int64{read("m(i(A),B)"), read("m(A,i(B))"), read("m(i(A),i(B))"), read("m(m(A,B),A)"), read("i(i(i(A)))"), read("m(B,m(A,A))")})
	others := bindingsTo([]int64{0, 1}, [][]int64{read("A"), read("B"), read("C"), read("e"), read("a"), read("i(A)"), read("i(B)"), read("i(e)"), read("i(a)"), read("m(A,B)"), read("m(C,C)"), read("m(e,i(e))")})
	counts := map[int64]int{}
	for _, a := range terms {
		for _, b := range terms {
			unified := impl.UnifyTerms(s, a, b)
			counts[unified.Code]++
			if unified.Code == impl.OK {
				mustBe(t, fmt.Sprint("the fault of the binding of ", a, b), impl.BindingFault(s, unified.Binding), int64(impl.OK))
				mustBe(t, fmt.Sprint("what becomes of ", a, " and ", b), impl.ApplyBinding(s, unified.Binding, a), impl.ApplyBinding(s, unified.Binding, b))
			}
			for _, other := range others {
				if !impl.SameTerms(impl.ApplyBinding(s, other, a).Term, impl.ApplyBinding(s, other, b).Term) {
					continue
				}
				counts[-1]++
				mustBe(t, fmt.Sprint("the code of UnifyTerms of ", a, b, " which ", other, " makes the same"), unified.Code, int64(impl.OK))
				mustBeMadeOutOf(t, s, unified.Binding, other)
			}
		}
	}
	if counts[impl.OK] < 300 || counts[impl.ErrNone] < 100 || counts[-1] < 1000 {
		t.Errorf("some kinds hardly came: %v", counts)
	}
}

// hideParts puts variables from the sixth one on for parts of a term, and tells what they stand for.
func hideParts(numbers *numbersByRule, s impl.Signature, term []int64, known impl.Binding) ([]int64, impl.Binding) {
	all := impl.Binding{Vars: slices.Clone(known.Vars), Terms: slices.Clone(known.Terms)}
	for variable := int64(6); variable < 10; variable++ {
		at := int64(numbers.below(len(term)))
		part := impl.SubtermAt(s, term, at).Term
		if slices.ContainsFunc(part, isKnownVariable) {
			continue
		}
		term = impl.ReplaceAt(s, term, at, []int64{-1 - variable}).Term
		all.Vars, all.Terms = append(all.Vars, variable), append(all.Terms, part)
	}
	return term, all
}

func TestP7WhateverElseMakesBothTheSameIsMadeOutOfIt(t *testing.T) {
	s := exampleSignature()
	var numbers numbersByRule
	counts := map[int64]int{}
	for range 10000 {
		known := impl.Binding{}
		for variable := range int64(4) {
			known.Vars = append(known.Vars, variable)
			known.Terms = append(known.Terms, chain(1+numbers.below(3)))
		}
		a := numbers.term(2+numbers.below(9), 4)
		made := impl.ApplyBinding(s, known, a)
		if made.Code != impl.OK {
			continue
		}
		b, all := hideParts(&numbers, s, made.Term, known)
		unified := impl.UnifyTerms(s, a, b)
		counts[unified.Code]++
		if unified.Code != impl.OK {
			t.Errorf("UnifyTerms of %v and %v: %v, but %v makes both %v", a, b, unified, all, made.Term)
			continue
		}
		mustBe(t, fmt.Sprint("what becomes of ", a, " and ", b), impl.ApplyBinding(s, unified.Binding, a), impl.ApplyBinding(s, unified.Binding, b))
		mustBe(t, fmt.Sprint("what else becomes of ", a, " and ", b), impl.ApplyBinding(s, all, b), made)
		mustBeMadeOutOf(t, s, unified.Binding, all)
	}
	if counts[impl.OK] < 5000 {
		t.Errorf("some codes hardly came: %v", counts)
	}
}

func TestP7TwoBindingsOneBehindTheOther(t *testing.T) {
	s := exampleSignature()
	pool := [][]int64{read("A"), read("B"), read("C"), read("e"), read("i(A)"), read("i(B)"), read("m(A,B)"), read("m(B,C)")}
	some := slices.Concat(bindingsTo(nil, pool), bindingsTo([]int64{0}, pool), bindingsTo([]int64{1}, pool), bindingsTo([]int64{2}, pool), bindingsTo([]int64{0, 1}, pool[1:5]), bindingsTo([]int64{1, 11}, pool[3:7]))
	terms := slices.Concat(ruleTerms(2, -1, -2, -3, -12), [][]int64{read("m(A,B)"), read("m(L,m(C,A))"), read("m(m(A,A),i(B))")})
	for _, first := range some {
		for _, second := range some {
			both := impl.ThenBinding(s, first, second)
			mustBe(t, fmt.Sprint("the fault of both ", first, second), impl.BindingFault(s, both.Binding), int64(impl.OK))
			for _, term := range terms {
				one := impl.ApplyBinding(s, first, term)
				mustBe(t, fmt.Sprint("both ", first, second, " of ", term), impl.ApplyBinding(s, both.Binding, term), impl.ApplyBinding(s, second, one.Term))
			}
		}
	}
}

func TestP7ManyBindingsOneBehindTheOther(t *testing.T) {
	s := exampleSignature()
	var numbers numbersByRule
	asked := 0
	for range 20000 {
		first, second, term := numbers.binding(6, 4), numbers.binding(6, 4), numbers.term(1+numbers.below(8), 6)
		both, one := impl.ThenBinding(s, first, second), impl.ApplyBinding(s, first, term)
		if both.Code != impl.OK || one.Code != impl.OK {
			continue
		}
		asked++
		mustBe(t, fmt.Sprint("both ", first, second, " of ", term), impl.ApplyBinding(s, both.Binding, term), impl.ApplyBinding(s, second, one.Term))
	}
	if asked < 3000 {
		t.Errorf("only %d bindings were asked", asked)
	}
}

func TestP7AnEquationWhoseVariablesAreAllGreaterIsTheSamePlainOne(t *testing.T) {
	s := exampleSignature()
	terms := slices.Concat(ruleTerms(3, -1, -2), [][]int64{read("m(C,A)"), read("m(F,m(B,A))"), read("i(m(B,i(F)))"), read("m(L,e)"), fullComb(), varied(-1, -2, -3, -4, -5, -6)})
	asked := 0
	for _, left := range terms {
		for _, right := range terms {
			want := impl.PlainEquation(s, equation(left, right))
			for by := range int64(12) {
				first, second := impl.ShiftTerm(s, left, by), impl.ShiftTerm(s, right, by)
				greatest := -1 - min(slices.Min(left), slices.Min(right), -1)
				mustBe(t, fmt.Sprint("whether ", left, right, " can be shifted by ", by), first.Code == impl.OK && second.Code == impl.OK, greatest+by < 12 || slices.Min(left) >= 0 && slices.Min(right) >= 0)
				if first.Code == impl.OK && second.Code == impl.OK {
					asked++
					mustBe(t, fmt.Sprint("the plain one of ", left, right, " by ", by), impl.PlainEquation(s, equation(first.Term, second.Term)), want)
				}
			}
		}
	}
	if asked < 5000 {
		t.Errorf("only %d equations were asked", asked)
	}
}

// bindAnswers calls every function of the chapter with whatever of the arguments it takes.
func bindAnswers(s impl.Signature, a impl.Binding, b impl.Binding, first []int64, second []int64, by int64) []any {
	return []any{
		impl.BindingFault(s, a), impl.ApplyBinding(s, a, first), impl.MatchTerm(s, first, second), impl.UnifyTerms(s, first, second),
		impl.ShiftTerm(s, first, by), impl.ThenBinding(s, a, b), impl.SameBindings(a, b),
	}
}

func someBindings() []impl.Binding {
	return []impl.Binding{
		{}, {Vars: []int64{}, Terms: [][]int64{}}, binds("A", "e"), binds("A", "B", "B", "i(A)"), binds("C", "m(A,L)", "L", "a"), numberedBinding(12, 1, -12), numberedBinding(1, chain(24)...),
		{Vars: []int64{0}}, {Vars: []int64{1, 0}, Terms: [][]int64{{0}, {0}}}, {Vars: []int64{12}, Terms: [][]int64{{0}}}, {Vars: []int64{0}, Terms: [][]int64{{9}}}, {Vars: []int64{0}, Terms: [][]int64{nil}}, numberedBinding(13, 0),
	}
}

// guardedBinding is a binding all of whose lists lie in greater ones.
type guardedBinding struct {
	vars  guarded[int64]
	terms []guarded[int64]
	lists [][]int64
	b     impl.Binding
}

func guardBinding(b impl.Binding) guardedBinding {
	g := guardedBinding{vars: guardNumbers(b.Vars)}
	for _, term := range b.Terms {
		inside := guardNumbers(term)
		g.terms, g.lists = append(g.terms, inside), append(g.lists, inside.list)
	}
	g.lists = append(g.lists, []int64{guardNumber})
	g.b = impl.Binding{Vars: g.vars.list, Terms: g.lists[:len(b.Terms)]}
	return g
}

func (g guardedBinding) mustBeUnchanged(t *testing.T, who string) {
	t.Helper()
	g.vars.mustBeUnchanged(t, who)
	for place, inside := range g.terms {
		inside.mustBeUnchanged(t, who)
		mustBe(t, who+": a term of its argument", g.lists[place], inside.list)
	}
	mustBe(t, who+": what is behind the terms of its argument", g.lists[len(g.terms)], []int64{guardNumber})
}

func (g guardedBinding) overwrite() {
	overwriteNumbers(g.vars.whole)
	for _, inside := range g.terms {
		overwriteNumbers(inside.whole)
	}
	clear(g.lists)
}

func TestP1BindAnswersHangOnTheArgumentsAlone(t *testing.T) {
	bindings := someBindings()
	for i, s := range fewSignatures() {
		for j, first := range someTerms() {
			for k, second := range someTerms() {
				a, b, by := bindings[(i+3*j+5*k)%len(bindings)], bindings[(i+j+7*k)%len(bindings)], int64((i+j+k)%15-1)
				answers := bindAnswers(s, a, b, first, second, by)
				bindAnswers(exampleSignature(), binds("A", "e"), binds("B", "A"), read("m(A,B)"), read("m(i(B),e)"), 3)
				mustBe(t, "the same call again", bindAnswers(s, a, b, first, second, by), answers)
				again := bindAnswers(signature(guardSymbols(s.Symbols).list...), guardBinding(a).b, guardBinding(b).b, guardNumbers(first).list, guardNumbers(second).list, by)
				mustBe(t, "the same call with other memory", again, answers)
			}
		}
	}
}

func TestP1NilAndEmptyBindingsAreTheSame(t *testing.T) {
	none, empty := []int64{}, impl.Binding{Vars: []int64{}, Terms: [][]int64{}}
	noTerm, emptyTerm := impl.Binding{Vars: []int64{0}, Terms: [][]int64{nil}}, impl.Binding{Vars: []int64{0}, Terms: [][]int64{{}}}
	for _, s := range fewSignatures() {
		mustBe(t, "empty lists", bindAnswers(s, empty, empty, none, none, 0), bindAnswers(s, impl.Binding{}, impl.Binding{}, nil, nil, 0))
		for _, b := range someBindings() {
			mustBe(t, "an empty binding ahead", bindAnswers(s, empty, b, read("m(A,B)"), none, 1), bindAnswers(s, impl.Binding{}, b, read("m(A,B)"), nil, 1))
			mustBe(t, "an empty binding behind", bindAnswers(s, b, empty, none, read("m(A,B)"), 1), bindAnswers(s, b, impl.Binding{}, nil, read("m(A,B)"), 1))
			mustBe(t, "an empty term in a binding", bindAnswers(s, emptyTerm, b, none, none, 1), bindAnswers(s, noTerm, b, nil, nil, 1))
		}
	}
}

func TestP1BindArgumentsAreNotChanged(t *testing.T) {
	bindings := slices.Concat(someBindings(), []impl.Binding{binds("A", "m(B,C)", "C", "i(B)"), binds("A", "e", "B", "a", "C", "i(L)")})
	terms := slices.Concat(someTerms(), [][]int64{read("m(A,m(B,C))"), read("m(i(B),m(a,A))")})
	for i, a := range bindings {
		for j, b := range bindings {
			for k, term := range terms {
				other := terms[(i+3*j+k)%len(terms)]
				symbols, first, second := guardSymbols(exampleSignature().Symbols), guardNumbers(term), guardNumbers(other)
				ahead, behind := guardBinding(a), guardBinding(b)
				bindAnswers(signature(symbols.list...), ahead.b, behind.b, first.list, second.list, int64(k%12))
				symbols.mustBeUnchanged(t, "a function of bindings")
				first.mustBeUnchanged(t, "a function of bindings")
				second.mustBeUnchanged(t, "a function of bindings")
				ahead.mustBeUnchanged(t, "a function of bindings")
				behind.mustBeUnchanged(t, "a function of bindings")
			}
		}
	}
}

// listsIn are all lists of numbers of a binding.
func listsIn(b impl.Binding) [][]int64 {
	return append([][]int64{b.Vars}, b.Terms...)
}

// checkNewBinding overwrites each list of an answer by itself, and then the whole of it, and holds all else against what was asked for.
func checkNewBinding(t *testing.T, who string, want impl.Binding, ask func() impl.Binding) {
	t.Helper()
	kept := ask()
	for place := range listsIn(want) {
		spoilt := ask()
		list := listsIn(spoilt)[place]
		overwriteNumbers(list)
		for other, beside := range listsIn(spoilt) {
			if other != place && !slices.Equal(beside, listsIn(want)[other]) {
				t.Errorf("%s: the list %d is %v beside the list %d that was overwritten, want %v", who, other, beside, place, listsIn(want)[other])
			}
		}
	}
	spoilt := ask()
	for _, list := range listsIn(spoilt) {
		overwriteNumbers(list)
	}
	clear(spoilt.Terms[:cap(spoilt.Terms)])
	mustBeBinding(t, who+" ahead of some that were overwritten", impl.BindingResult{Binding: kept}, impl.BindingResult{Binding: want})
	mustBeBinding(t, who+" behind some that were overwritten", impl.BindingResult{Binding: ask()}, impl.BindingResult{Binding: want})
}

func TestP1MatchedAndUnifiedBindingsAreNewMemory(t *testing.T) {
	s := exampleSignature()
	terms := slices.Concat(ruleTerms(3, -1, -2), [][]int64{read("m(i(A),i(A))"), read("m(m(A,e),m(A,e))"), read("m(C,m(D,E))"), read("m(C,m(C,i(C)))"), read("m(i(e),m(i(e),i(e)))"), read("m(A,m(A,i(B)))"), chain(24), fullComb()})
	for _, a := range terms {
		for _, b := range terms {
			for _, c := range []struct {
				who  string
				want impl.BindingResult
				call func(s impl.Signature, a []int64, b []int64) impl.BindingResult
			}{
				{"MatchTerm", wantMatch(s, a, b), impl.MatchTerm},
				{"UnifyTerms", wantUnify(s, a, b), impl.UnifyTerms},
			} {
				if c.want.Code != impl.OK {
					continue
				}
				first, second := guardNumbers(a), guardNumbers(b)
				checkNewBinding(t, c.who, c.want.Binding, func() impl.Binding { return c.call(s, first.list, second.list).Binding })
				kept := c.call(s, first.list, second.list)
				first.mustBeUnchanged(t, "who overwrote the answer of "+c.who)
				second.mustBeUnchanged(t, "who overwrote the answer of "+c.who)
				overwriteNumbers(first.whole)
				overwriteNumbers(second.whole)
				mustBeBinding(t, c.who+" of arguments that were overwritten", kept, c.want)
			}
		}
	}
}

func TestP1MatchAndUnifyOfListsThatShareMemory(t *testing.T) {
	s := exampleSignature()
	for _, term := range append(smallTerms(4), read("m(m(A,B),m(B,A))"), fullComb()) {
		for place := range term {
			given := guardNumbers(term)
			part := given.list[place : place+len(wantSubterm(s, term, int64(place)).Term)]
			checkMatchAndUnify(t, s, given.list, part)
			checkMatchAndUnify(t, s, part, given.list)
			given.mustBeUnchanged(t, "MatchTerm or UnifyTerms of lists that share memory")
		}
	}
}

func TestP1ThenBindingsAreNewMemory(t *testing.T) {
	s := exampleSignature()
	some := []impl.Binding{
		{}, binds("A", "e"), binds("A", "B"), binds("B", "i(A)"), binds("A", "B", "B", "A"), binds("A", "m(C,C)", "C", "i(L)"), binds("B", "C", "C", "B", "L", "a"), binds("A", "C", "B", "C", "D", "C"),
		numberedBinding(12, 3), numberedBinding(12, 1, -2),
	}
	for _, a := range some {
		for _, b := range some {
			first, second, want := guardBinding(a), guardBinding(b), wantThen(s, a, b)
			checkNewBinding(t, "ThenBinding", want.Binding, func() impl.Binding { return impl.ThenBinding(s, first.b, second.b).Binding })
			kept := impl.ThenBinding(s, first.b, second.b)
			first.mustBeUnchanged(t, "who overwrote the answer of ThenBinding")
			second.mustBeUnchanged(t, "who overwrote the answer of ThenBinding")
			first.overwrite()
			second.overwrite()
			mustBeBinding(t, "ThenBinding of arguments that were overwritten", kept, want)
		}
	}
	shared := []int64{1, -2}
	one := impl.Binding{Vars: []int64{0, 1}, Terms: [][]int64{shared, shared}}
	checkNewBinding(t, "ThenBinding of one binding twice", binds("A", "i(i(B))", "B", "i(i(B))"), func() impl.Binding { return impl.ThenBinding(s, one, one).Binding })
	checkNewBinding(t, "ThenBinding of one list twice", binds("A", "i(B)", "B", "i(B)"), func() impl.Binding { return impl.ThenBinding(s, impl.Binding{}, one).Binding })
	mustBe(t, "a list that stands twice in a binding", shared, []int64{1, -2})
}

func TestP1BoundAndShiftedTermsAreNewMemory(t *testing.T) {
	s := exampleSignature()
	for _, b := range []impl.Binding{{}, binds("A", "e"), binds("A", "B", "B", "i(A)"), binds("A", "m(B,C)", "L", "a"), binds("C", "e")} {
		for _, term := range append(smallTerms(4), fullComb()) {
			given, ahead, want := guardNumbers(term), guardBinding(b), wantApply(s, b, term)
			if want.Code != impl.OK {
				continue
			}
			checkNewNumbers(t, "ApplyBinding", want.Term, func() []int64 { return impl.ApplyBinding(s, ahead.b, given.list).Term })
			kept := impl.ApplyBinding(s, ahead.b, given.list)
			given.mustBeUnchanged(t, "who overwrote the answer of ApplyBinding")
			ahead.mustBeUnchanged(t, "who overwrote the answer of ApplyBinding")
			overwriteNumbers(given.whole)
			ahead.overwrite()
			mustBe(t, "ApplyBinding of arguments that were overwritten", kept, want)
		}
	}
	for _, term := range slices.Concat(ruleTerms(4, -1, -2), [][]int64{chain(24), fullComb()}) {
		for _, by := range []int64{0, 1, 6, 10} {
			given := guardNumbers(term)
			checkNewNumbers(t, "ShiftTerm", wantShift(s, term, by).Term, func() []int64 { return impl.ShiftTerm(s, given.list, by).Term }, given)
		}
	}
}

func TestBindingsAreNotLedBehindTheEndBySpareRoom(t *testing.T) {
	s, whole := exampleSignature(), binds("A", "e", "B", "a", "C", "i(e)")
	for end := range 4 {
		cut := impl.Binding{Vars: whole.Vars[:end], Terms: whole.Terms[:end]}
		checkApply(t, s, cut, read("m(A,m(B,C))"))
		checkThen(t, s, cut, binds("B", "A"))
		for other := range 4 {
			checkApply(t, s, impl.Binding{Vars: whole.Vars[:end], Terms: whole.Terms[:other]}, read("m(A,m(B,C))"))
		}
	}
	pattern := read("m(A,m(B,C))")
	for end := range pattern {
		checkMatchAndUnify(t, s, pattern[:end], read("m(e,m(a,e))"))
		checkMatchAndUnify(t, s, read("m(e,m(a,e))"), pattern[:end])
	}
}

func TestP1NothingIsKeptOfABinding(t *testing.T) {
	s, b, term := exampleSignature(), binds("A", "i(e)", "B", "a"), read("m(A,B)")
	bindAnswers(s, b, b, term, read("m(e,a)"), 1)
	copy(b.Terms[0], []int64{1, 3})
	b.Terms[1] = []int64{-3}
	mustBe(t, "ApplyBinding of the new terms", impl.ApplyBinding(s, b, term), impl.TermResult{Term: read("m(i(a),C)")})
	mustBeBinding(t, "ThenBinding of the new terms", impl.ThenBinding(s, b, binds("C", "e")), impl.BindingResult{Binding: binds("A", "i(a)", "B", "e", "C", "e")})
	copy(term, []int64{2, -2, -3})
	mustBeBinding(t, "MatchTerm of the new pattern", impl.MatchTerm(s, term, read("m(e,a)")), impl.BindingResult{Binding: binds("B", "e", "C", "a")})
	mustBeBinding(t, "UnifyTerms of the new term", impl.UnifyTerms(s, term, read("m(C,e)")), impl.BindingResult{Binding: binds("B", "e", "C", "e")})
	mustBe(t, "ShiftTerm of the new term", impl.ShiftTerm(s, term, 1), impl.TermResult{Term: read("m(C,D)")})
	s.Symbols[1] = impl.Symbol{Name: "i", Arity: 2}
	mustBe(t, "BindingFault by the new arity", impl.BindingFault(s, b), int64(impl.ErrForm))
	mustBeBinding(t, "MatchTerm by the new arity", impl.MatchTerm(s, []int64{1, -1, -2}, []int64{1, 0, 3}), impl.BindingResult{Binding: binds("A", "e", "B", "a")})
}
