package tests

import (
	"fmt"
	"math"
	"slices"
	"testing"

	"loop.example/g00653/impl"
)

// tree is a term as its node and its arguments: the tests' own way to tell what a list of nodes is.
type tree struct {
	node      int64
	arguments []tree
}

func isKnownVariable(node int64) bool {
	return slices.Contains([]int64{-1, -2, -3, -4, -5, -6, -7, -8, -9, -10, -11, -12}, node)
}

func isKnownNode(s impl.Signature, node int64) bool {
	for number := range s.Symbols {
		if int64(number) == node {
			return true
		}
	}
	return isKnownVariable(node)
}

// growTree tells the tree that nodes begin with and what is behind it, or false where they end inside of it.
func growTree(s impl.Signature, nodes []int64) (tree, []int64, bool) {
	if len(nodes) == 0 {
		return tree{}, nil, false
	}
	grown, rest := tree{node: nodes[0]}, nodes[1:]
	if isKnownVariable(nodes[0]) {
		return grown, rest, true
	}
	for range s.Symbols[nodes[0]].Arity {
		argument, behind, whole := growTree(s, rest)
		if !whole {
			return tree{}, nil, false
		}
		grown.arguments = append(grown.arguments, argument)
		rest = behind
	}
	return grown, rest, true
}

// wholeTree is only asked for lists that are terms.
func wholeTree(s impl.Signature, nodes []int64) tree {
	whole, _, _ := growTree(s, nodes)
	return whole
}

// partsOf lists a tree and all trees in it; the place of each is its number in this list.
func partsOf(whole tree) []tree {
	parts := []tree{whole}
	for _, argument := range whole.arguments {
		parts = append(parts, partsOf(argument)...)
	}
	return parts
}

func nodesOf(whole tree) []int64 {
	nodes := []int64{}
	for _, part := range partsOf(whole) {
		nodes = append(nodes, part.node)
	}
	return nodes
}

func levelsOf(whole tree) int64 {
	levels := []int64{0}
	for _, argument := range whole.arguments {
		levels = append(levels, levelsOf(argument))
	}
	return 1 + slices.Max(levels)
}

func graft(whole tree, place int, by tree) tree {
	if place == 0 {
		return by
	}
	grafted, begin := tree{node: whole.node}, 1
	for _, argument := range whole.arguments {
		end := begin + len(partsOf(argument))
		if place >= begin && place < end {
			argument = graft(argument, place-begin, by)
		}
		grafted.arguments = append(grafted.arguments, argument)
		begin = end
	}
	return grafted
}

func wantTermFault(s impl.Signature, term []int64) int64 {
	if code := wantSignatureFault(s); code != impl.OK {
		return code
	}
	if len(term) < 1 || len(term) > 24 {
		return impl.ErrMany
	}
	for _, node := range term {
		if !isKnownNode(s, node) {
			return impl.ErrRange
		}
	}
	if _, rest, whole := growTree(s, term); !whole || len(rest) > 0 {
		return impl.ErrForm
	}
	return impl.OK
}

func wantPlaceFault(s impl.Signature, term []int64, at int64) int64 {
	if code := wantTermFault(s, term); code != impl.OK {
		return code
	}
	for place := range term {
		if int64(place) == at {
			return impl.OK
		}
	}
	return impl.ErrRange
}

func wantGround(s impl.Signature, term []int64) bool {
	return wantTermFault(s, term) == impl.OK && !slices.ContainsFunc(term, isKnownVariable)
}

func wantDepth(s impl.Signature, term []int64) impl.IntResult {
	if code := wantTermFault(s, term); code != impl.OK {
		return impl.IntResult{Code: code}
	}
	return impl.IntResult{Value: levelsOf(wholeTree(s, term))}
}

func wantSubterm(s impl.Signature, term []int64, at int64) impl.TermResult {
	if code := wantPlaceFault(s, term, at); code != impl.OK {
		return impl.TermResult{Code: code}
	}
	return impl.TermResult{Term: nodesOf(partsOf(wholeTree(s, term))[at])}
}

func wantSize(s impl.Signature, term []int64, at int64) impl.IntResult {
	there := wantSubterm(s, term, at)
	return impl.IntResult{Code: there.Code, Value: int64(len(there.Term))}
}

func wantReplaced(s impl.Signature, term []int64, at int64, by []int64) impl.TermResult {
	if code := wantPlaceFault(s, term, at); code != impl.OK {
		return impl.TermResult{Code: code}
	}
	if code := wantTermFault(s, by); code != impl.OK {
		return impl.TermResult{Code: code}
	}
	nodes := nodesOf(graft(wholeTree(s, term), int(at), wholeTree(s, by)))
	if len(nodes) > 24 {
		return impl.TermResult{Code: impl.ErrMany}
	}
	return impl.TermResult{Term: nodes}
}

func wantVars(s impl.Signature, term []int64) impl.IntsResult {
	if code := wantTermFault(s, term); code != impl.OK {
		return impl.IntsResult{Code: code}
	}
	vars := []int64{}
	for _, node := range term {
		if isKnownVariable(node) {
			vars = append(vars, -1-node)
		}
	}
	slices.Sort(vars)
	return impl.IntsResult{List: slices.Compact(vars)}
}

func wantCount(s impl.Signature, term []int64, node int64) impl.IntResult {
	if code := wantTermFault(s, term); code != impl.OK {
		return impl.IntResult{Code: code}
	}
	if !isKnownNode(s, node) {
		return impl.IntResult{Code: impl.ErrRange}
	}
	others := slices.DeleteFunc(slices.Clone(term), func(other int64) bool { return other == node })
	return impl.IntResult{Value: int64(len(term) - len(others))}
}

// mustBeNumbers takes an empty list and nil as the same value, as the document does.
func mustBeNumbers(t *testing.T, who string, got, want impl.IntsResult) {
	t.Helper()
	if got.Code != want.Code || !slices.Equal(got.List, want.List) {
		t.Errorf("%s: got %+v, want %+v", who, got, want)
	}
}

// Nodes at and around the first and the last variable, the first and the last symbol of one to MaxSymbols, and such as overflow when they are worked with carelessly.
var edgeNodes = []int64{
	math.MinInt64, math.MinInt64 + 1, math.MinInt32, -257, -256, -25, -24, -14, -13, -12, -11, -2, -1,
	0, 1, 2, 3, 4, 5, 6, 7, 255, 256, 1 << 32, 1<<32 + 1, math.MaxInt64 - 1, math.MaxInt64,
}

func placesToAsk(term []int64) []int64 {
	length := int64(len(term))
	places := []int64{math.MinInt64, math.MinInt64 + 1, -256, -length, -2, -1, length, length + 1, 24, 25, 256, 1 << 32, math.MaxInt64 - 1, math.MaxInt64}
	for place := range min(length, 30) {
		places = append(places, place)
	}
	return places
}

// brief tells a list by its first nodes alone: the very long ones take long to be told.
func brief(list []int64) string {
	if len(list) > 30 {
		return fmt.Sprint(list[:30], " and so on, ", len(list), " nodes")
	}
	return fmt.Sprint(list)
}

// checkTerm asks all that is asked of one list of nodes alone.
func checkTerm(t *testing.T, s impl.Signature, term []int64) {
	t.Helper()
	who := fmt.Sprintf("of %s in %.60v", brief(term), s)
	mustBe(t, "TermFault "+who, impl.TermFault(s, term), wantTermFault(s, term))
	mustBe(t, "IsGround "+who, impl.IsGround(s, term), wantGround(s, term))
	mustBe(t, "DepthOf "+who, impl.DepthOf(s, term), wantDepth(s, term))
	mustBeNumbers(t, "VarsOf "+who, impl.VarsOf(s, term), wantVars(s, term))
	for _, at := range placesToAsk(term) {
		mustBe(t, fmt.Sprint("SizeAt ", at, " ", who), impl.SizeAt(s, term, at), wantSize(s, term, at))
		mustBe(t, fmt.Sprint("SubtermAt ", at, " ", who), impl.SubtermAt(s, term, at), wantSubterm(s, term, at))
	}
	for _, node := range edgeNodes {
		mustBe(t, fmt.Sprint("CountOf ", node, " ", who), impl.CountOf(s, term, node), wantCount(s, term, node))
	}
}

func checkReplaced(t *testing.T, s impl.Signature, term []int64, by []int64) {
	t.Helper()
	for _, at := range placesToAsk(term) {
		who := fmt.Sprintf("ReplaceAt %d of %s by %s in %.60v", at, brief(term), brief(by), s)
		mustBe(t, who, impl.ReplaceAt(s, term, at, by), wantReplaced(s, term, at, by))
	}
}

// termsOver makes all terms of so many nodes over the symbols and these variables' nodes.
func termsOver(s impl.Signature, variables []int64, size int) [][]int64 {
	terms := [][]int64{}
	if size == 1 {
		for _, variable := range variables {
			terms = append(terms, []int64{variable})
		}
	}
	for number, symbol := range s.Symbols {
		for _, arguments := range rowsOver(s, variables, size-1, symbol.Arity) {
			terms = append(terms, append([]int64{int64(number)}, arguments...))
		}
	}
	return terms
}

// rowsOver makes all rows of so many terms that have so many nodes together.
func rowsOver(s impl.Signature, variables []int64, size int, count int64) [][]int64 {
	if count == 0 && size == 0 {
		return [][]int64{{}}
	}
	rows := [][]int64{}
	if count == 0 {
		return rows
	}
	for first := 1; first <= size; first++ {
		for _, rest := range rowsOver(s, variables, size-first, count-1) {
			for _, term := range termsOver(s, variables, first) {
				rows = append(rows, slices.Concat(term, rest))
			}
		}
	}
	return rows
}

// smallTerms are all terms of at most so many nodes over the example's symbols and the first and the last variable.
func smallTerms(size int) [][]int64 {
	terms := [][]int64{}
	for nodes := 1; nodes <= size; nodes++ {
		terms = append(terms, termsOver(exampleSignature(), []int64{-1, -12}, nodes)...)
	}
	return terms
}

// chain makes i(i(..i(a))) of so many nodes.
func chain(size int) []int64 {
	return append(slices.Repeat([]int64{1}, size-1), 3)
}

// leftComb makes m(m(..m(A,a)..,a),a) of so many m.
func leftComb(count int) []int64 {
	return slices.Concat(slices.Repeat([]int64{2}, count), []int64{-1}, slices.Repeat([]int64{3}, count))
}

// rightComb makes m(e,m(e,..m(e,A))) of so many m.
func rightComb(count int) []int64 {
	return append(slices.Repeat([]int64{2, 0}, count), -1)
}

// Lists of nodes with a great count of them, by the example's symbols.
func longLists() [][]int64 {
	allVariables := slices.Concat(slices.Repeat([]int64{2}, 11), []int64{-12, -1, -11, -2, -10, -3, -9, -4, -8, -5, -7, -6})
	full := []int64{2, 2, 2, 2, 0, 3, 2, -1, -2, 2, 2, 3, 3, 2, -3, 0, 2, 2, 0, 1, 3, 2, 1, 0, -1}
	return [][]int64{
		chain(23), chain(24), chain(25), chain(70000), leftComb(11), append([]int64{1}, leftComb(11)...), leftComb(12), leftComb(35000),
		rightComb(11), append([]int64{1}, rightComb(11)...), rightComb(12), allVariables, append([]int64{1}, allVariables...), full, full[1:], full[:24],
		slices.Repeat([]int64{1}, 24), slices.Repeat([]int64{2}, 24), slices.Repeat([]int64{3}, 24), slices.Repeat([]int64{-1}, 24), slices.Repeat([]int64{9}, 24),
		slices.Repeat([]int64{1}, 25), slices.Repeat([]int64{9}, 25), make([]int64, 70000),
		append(chain(23), 3), append(chain(23), 9), append(leftComb(11), -1), leftComb(11)[:22], rightComb(11)[:22], chain(24)[:23],
	}
}

func TestBoundsOfTermsAreThoseOfTheDocument(t *testing.T) {
	mustBe(t, "MaxNodes", impl.MaxNodes, 24)
	mustBe(t, "MaxVars", impl.MaxVars, 12)
}

func TestTermFaultKnownValues(t *testing.T) {
	s := exampleSignature()
	for _, c := range []struct {
		what string
		term []int64
		code int64
	}{
		{"nil", nil, impl.ErrMany},
		{"no node", []int64{}, impl.ErrMany},
		{"a constant", []int64{0}, impl.OK},
		{"the last symbol", []int64{3}, impl.OK},
		{"one more than the last symbol", []int64{4}, impl.ErrRange},
		{"variable 0", []int64{-1}, impl.OK},
		{"variable MaxVars - 1", []int64{-12}, impl.OK},
		{"one more than the last variable", []int64{-13}, impl.ErrRange},
		{"the least number", []int64{math.MinInt64}, impl.ErrRange},
		{"the greatest number", []int64{math.MaxInt64}, impl.ErrRange},
		{"the example", []int64{2, 1, -1, 3}, impl.OK},
		{"a symbol without its argument", []int64{1}, impl.ErrForm},
		{"a symbol without its arguments", []int64{2}, impl.ErrForm},
		{"a symbol without its second argument", []int64{2, -1}, impl.ErrForm},
		{"an argument that ends too early", []int64{2, -1, 2, 0}, impl.ErrForm},
		{"two constants", []int64{3, 3}, impl.ErrForm},
		{"two variables", []int64{-1, -1}, impl.ErrForm},
		{"a node behind the end", []int64{2, 1, -1, 3, 0}, impl.ErrForm},
		{"two terms, the second one ends too early", []int64{1, 0, 2}, impl.ErrForm},
		{"as many nodes as arguments ask for, but not in order", []int64{0, 2, 3}, impl.ErrForm},
		{"MaxNodes in a chain", chain(24), impl.OK},
		{"one more in a chain", chain(25), impl.ErrMany},
		{"MaxNodes in a comb", append([]int64{1}, leftComb(11)...), impl.OK},
		{"one more in a comb", rightComb(12), impl.ErrMany},
	} {
		mustBe(t, "TermFault of "+c.what, impl.TermFault(s, c.term), c.code)
	}
}

func TestTermFaultAsksCodesInTheirOrder(t *testing.T) {
	s := exampleSignature()
	taken := signature(impl.Symbol{Name: "a"}, impl.Symbol{Name: "a"})
	for _, c := range []struct {
		what string
		s    impl.Signature
		term []int64
		code int64
	}{
		{"a signature's fault, no node", taken, nil, impl.ErrTaken},
		{"a signature's fault, too many nodes", taken, make([]int64, 25), impl.ErrTaken},
		{"a signature's fault, a wrong node", taken, []int64{9}, impl.ErrTaken},
		{"a signature's fault, two terms", taken, []int64{0, 0}, impl.ErrTaken},
		{"no constant, a variable alone", signature(impl.Symbol{Name: "a", Arity: 1}), []int64{-1}, impl.ErrNone},
		{"an arity out of bounds, and a term of it", signature(impl.Symbol{Name: "a"}, impl.Symbol{Name: "b", Arity: -1}), []int64{1}, impl.ErrRange},
		{"too many nodes, one of them wrong", s, append(chain(24), 9), impl.ErrMany},
		{"too many nodes, too early an end", s, slices.Repeat([]int64{1}, 25), impl.ErrMany},
		{"a wrong node behind the end", s, []int64{3, 4}, impl.ErrRange},
		{"a wrong node and too early an end", s, []int64{2, 4}, impl.ErrRange},
		{"a wrong node ahead of too early an end", s, []int64{-13, 1}, impl.ErrRange},
		{"a wrong node far behind the end", s, []int64{3, 3, 3, 3, -13}, impl.ErrRange},
	} {
		mustBe(t, "TermFault of "+c.what, impl.TermFault(c.s, c.term), c.code)
	}
}

func TestTermsKnownValues(t *testing.T) {
	s, x := exampleSignature(), []int64{2, 1, -1, 3}
	mustBe(t, "DepthOf m(i(A),a)", impl.DepthOf(s, x), impl.IntResult{Value: 3})
	mustBe(t, "DepthOf A", impl.DepthOf(s, []int64{-1}), impl.IntResult{Value: 1})
	mustBe(t, "DepthOf e", impl.DepthOf(s, []int64{0}), impl.IntResult{Value: 1})
	mustBe(t, "DepthOf m(a,i(i(a)))", impl.DepthOf(s, []int64{2, 3, 1, 1, 3}), impl.IntResult{Value: 4})
	mustBe(t, "DepthOf m(i(i(a)),a)", impl.DepthOf(s, []int64{2, 1, 1, 3, 3}), impl.IntResult{Value: 4})
	mustBe(t, "DepthOf MaxNodes in a chain", impl.DepthOf(s, chain(24)), impl.IntResult{Value: 24})
	for at, size := range []int64{4, 2, 1, 1} {
		mustBe(t, fmt.Sprint("SizeAt ", at), impl.SizeAt(s, x, int64(at)), impl.IntResult{Value: size})
	}
	mustBe(t, "SubtermAt 1", impl.SubtermAt(s, x, 1), impl.TermResult{Term: []int64{1, -1}})
	mustBe(t, "SubtermAt the last place", impl.SubtermAt(s, x, 3), impl.TermResult{Term: []int64{3}})
	mustBe(t, "ReplaceAt 1 by e", impl.ReplaceAt(s, x, 1, []int64{0}), impl.TermResult{Term: []int64{2, 0, 3}})
	mustBe(t, "ReplaceAt 2 by itself", impl.ReplaceAt(s, x, 2, x), impl.TermResult{Term: []int64{2, 1, 2, 1, -1, 3, 3}})
	mustBe(t, "ReplaceAt 0 by A", impl.ReplaceAt(s, x, 0, []int64{-1}), impl.TermResult{Term: []int64{-1}})
	mustBe(t, "VarsOf m(C,A)", impl.VarsOf(s, []int64{2, -3, -1}), impl.IntsResult{List: []int64{0, 2}})
	mustBe(t, "VarsOf m(L,L)", impl.VarsOf(s, []int64{2, -12, -12}), impl.IntsResult{List: []int64{11}})
	mustBeNumbers(t, "VarsOf a", impl.VarsOf(s, []int64{3}), impl.IntsResult{})
	mustBe(t, "CountOf a in m(a,i(a))", impl.CountOf(s, []int64{2, 3, 1, 3}, 3), impl.IntResult{Value: 2})
	mustBe(t, "CountOf a variable that is not there", impl.CountOf(s, x, -12), impl.IntResult{})
	mustBe(t, "CountOf one more than the last variable", impl.CountOf(s, x, -13), impl.IntResult{Code: impl.ErrRange})
	mustBe(t, "CountOf one more than the last symbol", impl.CountOf(s, x, 4), impl.IntResult{Code: impl.ErrRange})
	mustBe(t, "IsGround m(i(A),a)", impl.IsGround(s, x), false)
	mustBe(t, "IsGround m(i(e),a)", impl.IsGround(s, []int64{2, 1, 0, 3}), true)
	mustBe(t, "IsGround no term", impl.IsGround(s, []int64{2, 1, 0}), false)
	mustBe(t, "IsGround nil", impl.IsGround(s, nil), false)
}

func TestPlacesBounds(t *testing.T) {
	s, x := exampleSignature(), []int64{2, 1, -1, 3}
	for _, at := range []int64{math.MinInt64, -4, -1, 4, 5, math.MaxInt64} {
		mustBe(t, fmt.Sprint("SizeAt ", at), impl.SizeAt(s, x, at), impl.IntResult{Code: impl.ErrRange})
		mustBe(t, fmt.Sprint("SubtermAt ", at), impl.SubtermAt(s, x, at), impl.TermResult{Code: impl.ErrRange})
		mustBe(t, fmt.Sprint("ReplaceAt ", at), impl.ReplaceAt(s, x, at, x), impl.TermResult{Code: impl.ErrRange})
	}
}

func TestReplaceAtFillsMaxNodesAndNoMore(t *testing.T) {
	s := exampleSignature()
	for size := 1; size <= 24; size++ {
		for bySize := 1; bySize <= 24; bySize++ {
			for at := range size {
				want := impl.TermResult{Code: impl.ErrMany}
				if at+bySize <= 24 {
					want = impl.TermResult{Term: chain(at + bySize)}
				}
				mustBe(t, fmt.Sprintf("ReplaceAt %d of a chain of %d by one of %d", at, size, bySize), impl.ReplaceAt(s, chain(size), int64(at), chain(bySize)), want)
			}
		}
	}
	full := append([]int64{1}, leftComb(11)...)
	mustBe(t, "24 nodes, and a leaf instead of a leaf", impl.ReplaceAt(s, full, 23, []int64{0}).Code, int64(impl.OK))
	mustBe(t, "24 nodes, and two instead of a leaf", impl.ReplaceAt(s, full, 23, []int64{1, 0}), impl.TermResult{Code: impl.ErrMany})
	mustBe(t, "24 nodes instead of 24", impl.ReplaceAt(s, full, 0, chain(24)), impl.TermResult{Term: chain(24)})
	mustBe(t, "24 nodes instead of a leaf of 24", impl.ReplaceAt(s, full, 12, chain(24)), impl.TermResult{Code: impl.ErrMany})
}

func TestReplaceAtAsksCodesInTheirOrder(t *testing.T) {
	s, taken := exampleSignature(), signature(impl.Symbol{Name: "a"}, impl.Symbol{Name: "a"})
	x, short := []int64{2, 1, -1, 3}, []int64{2, 1}
	for _, c := range []struct {
		what string
		s    impl.Signature
		term []int64
		at   int64
		by   []int64
		code int64
	}{
		{"a signature's fault and all else", taken, nil, -1, nil, impl.ErrTaken},
		{"no term, no place, nothing to put", s, short, 9, nil, impl.ErrForm},
		{"no term, and a wrong node to put", s, short, 0, []int64{9}, impl.ErrForm},
		{"no place, nothing to put", s, x, 4, nil, impl.ErrRange},
		{"no place, no term to put", s, x, -1, short, impl.ErrRange},
		{"nothing to put", s, x, 0, nil, impl.ErrMany},
		{"too much to put", s, x, 0, chain(25), impl.ErrMany},
		{"a wrong node to put", s, x, 3, []int64{4}, impl.ErrRange},
		{"a wrong node to put, and no room", s, chain(24), 23, append(slices.Repeat([]int64{1}, 23), -13), impl.ErrRange},
		{"no term to put, and no room", s, chain(24), 23, slices.Repeat([]int64{1}, 24), impl.ErrForm},
		{"two terms to put", s, x, 3, []int64{3, 3}, impl.ErrForm},
		{"no room", s, chain(24), 23, []int64{1, 3}, impl.ErrMany},
	} {
		mustBe(t, "ReplaceAt: "+c.what, impl.ReplaceAt(c.s, c.term, c.at, c.by), impl.TermResult{Code: c.code})
	}
}

func TestTheTermIsAskedAheadOfPlaceAndNode(t *testing.T) {
	for _, s := range fewSignatures() {
		for _, term := range [][]int64{nil, {9}, {-13}, {0, 0}, chain(25), {0}} {
			code := wantTermFault(s, term)
			if code == impl.OK {
				code = impl.ErrRange
			}
			for _, wrong := range []int64{math.MinInt64, -13, 24, math.MaxInt64} {
				mustBe(t, "SizeAt", impl.SizeAt(s, term, wrong), impl.IntResult{Code: code})
				mustBe(t, "SubtermAt", impl.SubtermAt(s, term, wrong), impl.TermResult{Code: code})
				mustBe(t, "ReplaceAt", impl.ReplaceAt(s, term, wrong, term), impl.TermResult{Code: code})
				mustBe(t, "CountOf", impl.CountOf(s, term, wrong), impl.IntResult{Code: code})
			}
		}
	}
}

func TestAllShortListsOfNodes(t *testing.T) {
	for length := range 5 {
		for _, list := range listsOver([]int64{-13, -12, -1, 0, 1, 2, 3, 4}, length) {
			checkTerm(t, exampleSignature(), list)
		}
	}
	for length := range 8 {
		for _, list := range listsOver([]int64{-2, 1, 2, 3}, length) {
			mustBe(t, fmt.Sprint("TermFault of ", list), impl.TermFault(exampleSignature(), list), wantTermFault(exampleSignature(), list))
		}
	}
}

func TestAllSmallTerms(t *testing.T) {
	for _, term := range smallTerms(5) {
		mustBe(t, fmt.Sprint("TermFault of ", term), impl.TermFault(exampleSignature(), term), int64(impl.OK))
		checkTerm(t, exampleSignature(), term)
	}
	for _, list := range longLists() {
		checkTerm(t, exampleSignature(), list)
	}
}

func TestEveryNodeInEverySignature(t *testing.T) {
	for _, s := range allSignatures() {
		for _, node := range edgeNodes {
			for _, list := range [][]int64{{node}, {0, node}, {node, 0}, {1, node}, {node, -1, -2}, {2, node, node}} {
				mustBe(t, fmt.Sprintf("TermFault of %v in %.60v", list, s), impl.TermFault(s, list), wantTermFault(s, list))
			}
		}
	}
	for _, s := range fewSignatures() {
		for _, list := range append(longLists(), nil, []int64{}, []int64{0}, []int64{5}, []int64{6}, []int64{-12}, []int64{2, 0, 1}) {
			checkTerm(t, s, list)
		}
	}
}

func TestReplaceAtWhateverLists(t *testing.T) {
	s := exampleSignature()
	lists := append(longLists(), nil, []int64{}, []int64{0}, []int64{-12}, []int64{-13}, []int64{4}, []int64{2, 1}, []int64{3, 3}, []int64{2, 1, -1, 3}, []int64{2, 2, -1, 3, 1, 0})
	for _, term := range lists {
		for _, by := range lists {
			checkReplaced(t, s, term, by)
		}
	}
	for _, other := range fewSignatures() {
		checkReplaced(t, other, []int64{0}, []int64{1})
		checkReplaced(t, other, []int64{2, 0, 0}, []int64{-1})
	}
}

func TestP4WhatWasPutIsThereAndPutBackLeavesAllAsItWas(t *testing.T) {
	s := exampleSignature()
	terms := append(smallTerms(4), chain(20), leftComb(10), rightComb(10), chain(24), append([]int64{1}, rightComb(11)...))
	for _, term := range terms {
		for place := range term {
			at := int64(place)
			was := impl.SubtermAt(s, term, at)
			for _, by := range smallTerms(3) {
				who := fmt.Sprintf("%v at %d of %v", by, at, term)
				put := impl.ReplaceAt(s, term, at, by)
				if len(term)-len(was.Term)+len(by) > 24 {
					mustBe(t, who, put, impl.TermResult{Code: impl.ErrMany})
					continue
				}
				mustBe(t, "TermFault with "+who, impl.TermFault(s, put.Term), int64(impl.OK))
				mustBe(t, "SubtermAt with "+who, impl.SubtermAt(s, put.Term, at), impl.TermResult{Term: by})
				mustBe(t, "SizeAt with "+who, impl.SizeAt(s, put.Term, at), impl.IntResult{Value: int64(len(by))})
				mustBe(t, "put back with "+who, impl.ReplaceAt(s, put.Term, at, was.Term), impl.TermResult{Term: term})
			}
			mustBe(t, "the term there put there", impl.ReplaceAt(s, term, at, was.Term), impl.TermResult{Term: term})
		}
	}
}

func TestP4EachNodeIsCountedOnce(t *testing.T) {
	s := exampleSignature()
	for _, term := range append(smallTerms(5), longLists()...) {
		if wantTermFault(s, term) != impl.OK {
			continue
		}
		counted, variables := int64(0), []int64{}
		for node := int64(-12); node <= 3; node++ {
			count := impl.CountOf(s, term, node)
			mustBe(t, fmt.Sprintf("code of CountOf %d in %v", node, term), count.Code, int64(impl.OK))
			counted += count.Value
			if node < 0 && count.Value > 0 {
				variables = append([]int64{-1 - node}, variables...)
			}
		}
		mustBe(t, fmt.Sprint("all nodes counted in ", term), counted, int64(len(term)))
		mustBe(t, fmt.Sprint("the size of ", term), impl.SizeAt(s, term, 0), impl.IntResult{Value: counted})
		mustBeNumbers(t, fmt.Sprint("the variables of ", term), impl.VarsOf(s, term), impl.IntsResult{List: variables})
		mustBe(t, fmt.Sprint("IsGround of ", term), impl.IsGround(s, term), len(variables) == 0)
	}
}

func TestP4CountsOfWhatWasPut(t *testing.T) {
	s, by := exampleSignature(), []int64{2, -12, 0}
	for _, term := range smallTerms(5) {
		for place := range term {
			at := int64(place)
			was, put := impl.SubtermAt(s, term, at), impl.ReplaceAt(s, term, at, by)
			for _, node := range []int64{-12, -1, 0, 1, 2, 3} {
				want := impl.CountOf(s, term, node).Value - impl.CountOf(s, was.Term, node).Value + impl.CountOf(s, by, node).Value
				mustBe(t, fmt.Sprintf("CountOf %d with %v at %d of %v", node, by, at, term), impl.CountOf(s, put.Term, node), impl.IntResult{Value: want})
			}
		}
	}
}

func TestSameTermsOfAnyLists(t *testing.T) {
	lists := append(longLists(), smallTerms(3)...)
	lists = append(lists, listsOver([]int64{math.MinInt64, -13, 0, 9, math.MaxInt64}, 2)...)
	lists = append(lists, nil, []int64{0}, []int64{9}, []int64{2, 1}, []int64{0, 0, 0}, []int64{2, 1, -1, 3}, []int64{2, 1, -1}, []int64{3, -1, 1, 2})
	for _, a := range lists {
		for _, b := range lists {
			want := len(a) == len(b)
			for i := 0; want && i < len(a); i++ {
				want = a[i] == b[i]
			}
			mustBe(t, fmt.Sprintf("SameTerms of %s and %s", brief(a), brief(b)), impl.SameTerms(a, b), want)
		}
	}
	mustBe(t, "SameTerms of nil and an empty list", impl.SameTerms(nil, []int64{}), true)
	mustBe(t, "SameTerms of an empty list and nil", impl.SameTerms([]int64{}, nil), true)
	mustBe(t, "SameTerms of nil and a list", impl.SameTerms(nil, []int64{0}), false)
}

// termAnswers calls every function of the chapter with whatever of the arguments it takes.
func termAnswers(s impl.Signature, term []int64, by []int64, at int64, node int64) []any {
	return []any{
		impl.TermFault(s, term), impl.IsGround(s, term), impl.DepthOf(s, term), impl.SizeAt(s, term, at), impl.SubtermAt(s, term, at),
		impl.ReplaceAt(s, term, at, by), impl.VarsOf(s, term), impl.CountOf(s, term, node), impl.SameTerms(term, by),
	}
}

func someTerms() [][]int64 {
	return [][]int64{
		nil, {}, {0}, {3}, {-1}, {-12}, {-13}, {4}, {6}, {1, 0}, {1}, {2, 1}, {3, 3}, {2, 1, -1, 3}, {2, -3, -1}, {2, 2, 0, -2, 1, -2},
		chain(23), chain(24), chain(25), append([]int64{1}, leftComb(11)...), make([]int64, 300),
	}
}

func TestP1TermAnswersHangOnTheArgumentsAlone(t *testing.T) {
	for i, s := range fewSignatures() {
		for j, term := range someTerms() {
			for k, by := range someTerms() {
				at, node := int64((i+j+k)%6-1), edgeNodes[(i+3*j+5*k)%len(edgeNodes)]
				first := termAnswers(s, term, by, at, node)
				termAnswers(exampleSignature(), []int64{2, -1, -2}, []int64{1, 3}, 1, -1)
				mustBe(t, "the same call again", termAnswers(s, term, by, at, node), first)
				again := termAnswers(signature(guardSymbols(s.Symbols).list...), guardNumbers(term).list, guardNumbers(by).list, at, node)
				mustBe(t, "the same call with other memory", again, first)
			}
		}
	}
}

func TestP1NilAndEmptyTermsAreTheSame(t *testing.T) {
	none := []int64{}
	for _, s := range fewSignatures() {
		for _, at := range []int64{-1, 0, 1, 24} {
			mustBe(t, "empty lists", termAnswers(s, none, none, at, at), termAnswers(s, nil, nil, at, at))
			for _, term := range someTerms() {
				mustBe(t, "an empty term", termAnswers(s, none, term, at, at), termAnswers(s, nil, term, at, at))
				mustBe(t, "an empty term to put", termAnswers(s, term, none, at, at), termAnswers(s, term, nil, at, at))
			}
		}
	}
}

func TestP1EveryPlaceAndNodeIsAnswered(t *testing.T) {
	for _, s := range fewSignatures() {
		for _, term := range someTerms() {
			for _, number := range edgeNodes {
				first := termAnswers(s, term, []int64{0}, number, number)
				mustBe(t, "the same call again", termAnswers(s, term, []int64{0}, number, number), first)
			}
		}
	}
}

func TestP1TermArgumentsAreNotChanged(t *testing.T) {
	for _, s := range fewSignatures() {
		for _, term := range someTerms() {
			for _, by := range someTerms() {
				symbols, first, second := guardSymbols(s.Symbols), guardNumbers(term), guardNumbers(by)
				for _, at := range []int64{-1, 0, 1, 2, 3, 23, 24} {
					termAnswers(signature(symbols.list...), first.list, second.list, at, at)
				}
				symbols.mustBeUnchanged(t, "a function of terms")
				first.mustBeUnchanged(t, "a function of terms")
				second.mustBeUnchanged(t, "ReplaceAt")
			}
		}
	}
}

// checkNewNumbers overwrites one answer, and then the arguments, and holds another answer of the same call against what was asked for.
func checkNewNumbers(t *testing.T, who string, want []int64, ask func() []int64, arguments ...guarded[int64]) {
	t.Helper()
	kept, spoilt := ask(), ask()
	overwriteNumbers(spoilt)
	for _, argument := range arguments {
		argument.mustBeUnchanged(t, "who overwrote the answer of "+who)
	}
	if !slices.Equal(kept, want) {
		t.Errorf("%s beside one that was overwritten: got %v, want %v", who, kept, want)
	}
	if again := ask(); !slices.Equal(again, want) {
		t.Errorf("%s behind one that was overwritten: got %v, want %v", who, again, want)
	}
	for _, argument := range arguments {
		overwriteNumbers(argument.whole)
	}
	if !slices.Equal(kept, want) {
		t.Errorf("%s of arguments that were overwritten: got %v, want %v", who, kept, want)
	}
}

func TestP1TermAnswersAreNewMemory(t *testing.T) {
	s := exampleSignature()
	bys := [][]int64{{0}, {-2}, {1, 3}, {2, 1, -1, 3}}
	for _, term := range append(smallTerms(4), chain(24), leftComb(11)) {
		given := guardNumbers(term)
		checkNewNumbers(t, "VarsOf", wantVars(s, term).List, func() []int64 { return impl.VarsOf(s, given.list).List }, given)
		for place := range term {
			at, whole := int64(place), guardNumbers(term)
			checkNewNumbers(t, "SubtermAt", wantSubterm(s, term, at).Term, func() []int64 { return impl.SubtermAt(s, whole.list, at).Term }, whole)
			for _, by := range bys {
				first, second := guardNumbers(term), guardNumbers(by)
				checkNewNumbers(t, "ReplaceAt", wantReplaced(s, term, at, by).Term, func() []int64 { return impl.ReplaceAt(s, first.list, at, second.list).Term }, first, second)
			}
		}
	}
}

func TestP1ReplaceAtOfListsThatShareMemory(t *testing.T) {
	s := exampleSignature()
	for _, term := range append(smallTerms(5), chain(12), leftComb(5)) {
		for place := range term {
			given := guardNumbers(term)
			by := given.list[place : place+len(wantSubterm(s, term, int64(place)).Term)]
			for at := range term {
				mustBe(t, fmt.Sprintf("ReplaceAt %d of %v by its own term at %d", at, term, place),
					impl.ReplaceAt(s, given.list, int64(at), by), wantReplaced(s, term, int64(at), slices.Clone(by)))
			}
			given.mustBeUnchanged(t, "ReplaceAt of lists that share memory")
		}
	}
}

func TestTermsAreNotLedBehindTheEndBySpareRoom(t *testing.T) {
	s, whole := exampleSignature(), []int64{2, 1, -1, 3}
	for end := range whole {
		code := int64(impl.ErrForm)
		if end == 0 {
			code = impl.ErrMany
		}
		mustBe(t, fmt.Sprint("nodes that end at ", end), impl.TermFault(s, whole[:end]), code)
		mustBe(t, fmt.Sprint("the depth of nodes that end at ", end), impl.DepthOf(s, whole[:end]), impl.IntResult{Code: code})
	}
}

func TestP1NothingIsKeptOfATerm(t *testing.T) {
	s, term := exampleSignature(), []int64{2, 1, -1, 3}
	termAnswers(s, term, term, 1, 3)
	copy(term, []int64{2, 3, 1, -2})
	mustBe(t, "SizeAt of the new term", impl.SizeAt(s, term, 1), impl.IntResult{Value: 1})
	mustBe(t, "SubtermAt of the new term", impl.SubtermAt(s, term, 2), impl.TermResult{Term: []int64{1, -2}})
	mustBe(t, "VarsOf the new term", impl.VarsOf(s, term), impl.IntsResult{List: []int64{1}})
	s.Symbols[1], s.Symbols[2] = s.Symbols[2], s.Symbols[1]
	mustBe(t, "TermFault by the new symbols", impl.TermFault(s, term), int64(impl.ErrForm))
	mustBe(t, "TermFault of another term by the new symbols", impl.TermFault(s, []int64{1, 3, 2, -2}), int64(impl.OK))
}
