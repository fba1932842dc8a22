package tests

import (
	"fmt"
	"math"
	"math/big"
	"slices"
	"testing"

	"loop.example/g00653/impl"
)

func algebra(size int64, tables ...[]int64) impl.Algebra {
	return impl.Algebra{Size: size, Tables: tables}
}

// tableLengths has, by size and arity, how many numbers a table has.
var tableLengths = map[int64][]int{1: {1, 1, 1}, 2: {1, 2, 4}, 3: {1, 3, 9}}

// valueRows has, by size, all rows of values that the variables of rules may have.
var valueRows = map[int64][][]int64{1: listsOver([]int64{0}, 6), 2: listsOver([]int64{0, 1}, 6), 3: listsOver([]int64{0, 1, 2}, 6)}

func isKnownValue(size int64, number int64) bool {
	return slices.Contains([]int64{0, 1, 2}[:size], number)
}

func wantAlgebraFault(s impl.Signature, a impl.Algebra) int64 {
	if code := wantSignatureFault(s); code != impl.OK {
		return code
	}
	lengths, known := tableLengths[a.Size]
	if !known {
		return impl.ErrRange
	}
	if len(a.Tables) != len(s.Symbols) {
		return impl.ErrMany
	}
	for symbol, table := range a.Tables {
		if len(table) != lengths[s.Symbols[symbol].Arity] {
			return impl.ErrMany
		}
		for _, number := range table {
			if !isKnownValue(a.Size, number) {
				return impl.ErrRange
			}
		}
	}
	return impl.OK
}

// wantAlgebra makes all numbers in one row first, and then cuts the tables from it.
func wantAlgebra(s impl.Signature, size int64, seed int64) impl.AlgebraResult {
	if code := wantSignatureFault(s); code != impl.OK {
		return impl.AlgebraResult{Code: code}
	}
	lengths, known := tableLengths[size]
	if !known || seed < 0 || seed > 65520 {
		return impl.AlgebraResult{Code: impl.ErrRange}
	}
	row, last := []int64{}, big.NewInt(seed)
	for range 6 * 9 {
		last = new(big.Int).Add(new(big.Int).Mul(last, big.NewInt(227)), big.NewInt(1))
		last.Mod(last, big.NewInt(65521))
		row = append(row, new(big.Int).Mod(last, big.NewInt(size)).Int64())
	}
	told := algebra(size)
	for _, symbol := range s.Symbols {
		length := lengths[symbol.Arity]
		told.Tables = append(told.Tables, slices.Clone(row[:length]))
		row = row[length:]
	}
	return impl.AlgebraResult{Algebra: told}
}

// treeValue cuts a table for two arguments into its rows, one for each value of the first one.
func treeValue(a impl.Algebra, values []int64, whole tree) int64 {
	if isKnownVariable(whole.node) {
		return values[-1-whole.node]
	}
	table := a.Tables[whole.node]
	switch len(whole.arguments) {
	case 0:
		return table[0]
	case 1:
		return table[treeValue(a, values, whole.arguments[0])]
	}
	rows := slices.Collect(slices.Chunk(table, int(a.Size)))
	return rows[treeValue(a, values, whole.arguments[0])][treeValue(a, values, whole.arguments[1])]
}

func wantValue(s impl.Signature, a impl.Algebra, values []int64, term []int64) impl.IntResult {
	if code := wantAlgebraFault(s, a); code != impl.OK {
		return impl.IntResult{Code: code}
	}
	if code := wantTermFault(s, term); code != impl.OK {
		return impl.IntResult{Code: code}
	}
	if len(values) != 6 {
		return impl.IntResult{Code: impl.ErrMany}
	}
	for _, value := range values {
		if !isKnownValue(a.Size, value) {
			return impl.IntResult{Code: impl.ErrRange}
		}
	}
	for _, node := range term {
		if node < -6 {
			return impl.IntResult{Code: impl.ErrRange}
		}
	}
	return impl.IntResult{Value: treeValue(a, values, wholeTree(s, term))}
}

// wantSameValues goes through all values of all variables, whether they are there or not.
func wantSameValues(s impl.Signature, a impl.Algebra, e impl.Equation) bool {
	left, right := wholeTree(s, e.Left), wholeTree(s, e.Right)
	for _, values := range valueRows[a.Size] {
		if treeValue(a, values, left) != treeValue(a, values, right) {
			return false
		}
	}
	return true
}

func wantHolds(s impl.Signature, a impl.Algebra, e impl.Equation) impl.IntResult {
	if code := wantAlgebraFault(s, a); code != impl.OK {
		return impl.IntResult{Code: code}
	}
	if code := wantEquationFault(s, e); code != impl.OK {
		return impl.IntResult{Code: code}
	}
	if wantSameValues(s, a, e) {
		return impl.IntResult{Value: 1}
	}
	return impl.IntResult{}
}

func wantAllHold(s impl.Signature, a impl.Algebra, list []impl.Equation) impl.IntResult {
	if code := wantAlgebraFault(s, a); code != impl.OK {
		return impl.IntResult{Code: code}
	}
	if code := wantEquationsFault(s, list); code != impl.OK {
		return impl.IntResult{Code: code}
	}
	for _, e := range list {
		if !wantSameValues(s, a, e) {
			return impl.IntResult{}
		}
	}
	return impl.IntResult{Value: 1}
}

// briefAlgebra tells the first tables, and these by their first numbers alone.
func briefAlgebra(a impl.Algebra) string {
	text := fmt.Sprint("size ", a.Size, ", ", len(a.Tables), " tables")
	for _, table := range a.Tables[:min(len(a.Tables), 7)] {
		text += fmt.Sprint(", ", brief(table))
	}
	return text
}

func checkValue(t *testing.T, s impl.Signature, a impl.Algebra, values []int64, term []int64) {
	t.Helper()
	who := fmt.Sprintf("EvalTerm of %s with %s by %s in %.60v", brief(term), brief(values), briefAlgebra(a), s)
	mustBe(t, who, impl.EvalTerm(s, a, values, term), wantValue(s, a, values, term))
}

func checkHolds(t *testing.T, s impl.Signature, a impl.Algebra, list ...impl.Equation) {
	t.Helper()
	who := fmt.Sprintf("of %s by %s in %.60v", briefRules(list...), briefAlgebra(a), s)
	mustBe(t, "AllHold "+who, impl.AllHold(s, a, list), wantAllHold(s, a, list))
	for number, e := range list[:min(len(list), 13)] {
		mustBe(t, fmt.Sprint("Holds of the one of the number ", number, " ", who), impl.Holds(s, a, e), wantHolds(s, a, e))
	}
}

func onePoint() impl.Algebra {
	return algebra(1, []int64{0}, []int64{0}, []int64{0}, []int64{0})
}

// groupOfTwo and groupOfThree are those in which the ten rules of groups hold, a being 1.
func groupOfTwo() impl.Algebra {
	return algebra(2, []int64{0}, []int64{0, 1}, []int64{0, 1, 1, 0}, []int64{1})
}

func groupOfThree() impl.Algebra {
	return algebra(3, []int64{0}, []int64{0, 2, 1}, []int64{0, 1, 2, 1, 2, 0, 2, 0, 1}, []int64{1})
}

// differences has the second argument taken from the first one as m, so that it matters which one is the first; i is one more, e is 2, and a is 1.
func differences() impl.Algebra {
	return algebra(3, []int64{2}, []int64{1, 2, 0}, []int64{0, 2, 1, 1, 0, 2, 2, 1, 0}, []int64{1})
}

// firstOfTwo has the first argument as m, and the other value as i; e is 1, and a is 0.
func firstOfTwo() impl.Algebra {
	return algebra(2, []int64{1}, []int64{1, 0}, []int64{0, 0, 1, 1}, []int64{0})
}

// leastOfThree has the less one of both arguments as m; i is 1 of 2 alone; e is 0, and a is 2.
func leastOfThree() impl.Algebra {
	return algebra(3, []int64{0}, []int64{0, 0, 1}, []int64{0, 0, 0, 0, 1, 1, 0, 1, 2}, []int64{2})
}

// someAlgebras are some over the example's symbols, of each size.
func someAlgebras() []impl.Algebra {
	list := []impl.Algebra{onePoint(), groupOfTwo(), groupOfThree(), differences(), firstOfTwo(), leastOfThree()}
	for _, seed := range []int64{0, 1, 7, 65520} {
		list = append(list, wantAlgebra(exampleSignature(), 2, seed).Algebra, wantAlgebra(exampleSignature(), 3, seed).Algebra)
	}
	return list
}

// someValues are rows of values for the variables of rules, for each size some that differ at each variable.
var someValues = [][]int64{{0, 0, 0, 0, 0, 0}, {0, 1, 1, 0, 1, 0}, {1, 0, 0, 1, 0, 1}, {0, 1, 2, 0, 1, 2}, {2, 2, 1, 1, 0, 0}, {1, 2, 0, 2, 0, 1}}

func TestBoundsOfAlgebrasAreThoseOfTheDocument(t *testing.T) {
	mustBe(t, "MaxSize", impl.MaxSize, 3)
}

// withTable puts that table in place of the one of the symbol.
func withTable(a impl.Algebra, symbol int, table ...int64) impl.Algebra {
	turned := algebra(a.Size, slices.Clone(a.Tables)...)
	turned.Tables[symbol] = table
	return turned
}

func withSize(a impl.Algebra, size int64) impl.Algebra {
	return algebra(size, a.Tables...)
}

func TestAlgebraFaultKnownValues(t *testing.T) {
	s, two, three := exampleSignature(), groupOfTwo(), groupOfThree()
	for _, c := range []struct {
		what string
		a    impl.Algebra
		code int64
	}{
		{"size 1", onePoint(), impl.OK},
		{"size 2", two, impl.OK},
		{"size 3", three, impl.OK},
		{"the zero value", impl.Algebra{}, impl.ErrRange},
		{"size 0", withSize(onePoint(), 0), impl.ErrRange},
		{"size -1", withSize(onePoint(), -1), impl.ErrRange},
		{"one more than MaxSize", withSize(three, 4), impl.ErrRange},
		{"one more than MaxSize, with tables for it", algebra(4, []int64{0}, make([]int64, 4), make([]int64, 16), []int64{0}), impl.ErrRange},
		{"the least number as size", withSize(three, math.MinInt64), impl.ErrRange},
		{"the greatest number as size", withSize(three, math.MaxInt64), impl.ErrRange},
		{"2 and what is lost in 32 bits as size", withSize(two, 1<<32+2), impl.ErrRange},
		{"no tables", algebra(2), impl.ErrMany},
		{"one table fewer", algebra(2, two.Tables[:3]...), impl.ErrMany},
		{"one table fewer, the first one", algebra(2, two.Tables[1:]...), impl.ErrMany},
		{"one table more", algebra(2, append(slices.Clone(two.Tables), []int64{0})...), impl.ErrMany},
		{"one table more, an empty one", algebra(2, append(slices.Clone(two.Tables), nil)...), impl.ErrMany},
		{"one table more than MaxSymbols", algebra(1, slices.Repeat([][]int64{{0}}, 7)...), impl.ErrMany},
		{"very many tables", algebra(1, slices.Repeat([][]int64{{0}}, 70000)...), impl.ErrMany},
		{"the tables of size 3 for size 2", withSize(three, 2), impl.ErrMany},
		{"the tables of size 2 for size 3", withSize(two, 3), impl.ErrMany},
		{"the tables of size 2 for size 1", withSize(two, 1), impl.ErrMany},
		{"a symbol without arguments, one number fewer", withTable(two, 0), impl.ErrMany},
		{"a symbol without arguments, one number more", withTable(two, 0, 0, 0), impl.ErrMany},
		{"a symbol without arguments, Size numbers", withTable(three, 0, 0, 0, 0), impl.ErrMany},
		{"the last symbol without arguments, one number fewer", withTable(three, 3), impl.ErrMany},
		{"the last symbol without arguments, one number more", withTable(three, 3, 0, 0), impl.ErrMany},
		{"a symbol with one argument, no number", withTable(two, 1), impl.ErrMany},
		{"a symbol with one argument, one number fewer, of size 1", withTable(onePoint(), 1), impl.ErrMany},
		{"a symbol with one argument, one number more, of size 1", withTable(onePoint(), 1, 0, 0), impl.ErrMany},
		{"a symbol with one argument, one number fewer, of size 2", withTable(two, 1, 0), impl.ErrMany},
		{"a symbol with one argument, one number more, of size 2", withTable(two, 1, 0, 0, 0), impl.ErrMany},
		{"a symbol with one argument, one number fewer, of size 3", withTable(three, 1, 0, 0), impl.ErrMany},
		{"a symbol with one argument, one number more, of size 3", withTable(three, 1, 0, 0, 0, 0), impl.ErrMany},
		{"a symbol with one argument, as many numbers as for two", withTable(two, 1, 0, 0, 0, 0), impl.ErrMany},
		{"a symbol with two arguments, one number fewer, of size 1", withTable(onePoint(), 2), impl.ErrMany},
		{"a symbol with two arguments, one number more, of size 1", withTable(onePoint(), 2, 0, 0), impl.ErrMany},
		{"a symbol with two arguments, one number fewer, of size 2", withTable(two, 2, 0, 0, 0), impl.ErrMany},
		{"a symbol with two arguments, one number more, of size 2", withTable(two, 2, 0, 0, 0, 0, 0), impl.ErrMany},
		{"a symbol with two arguments, one number fewer, of size 3", withTable(three, 2, make([]int64, 8)...), impl.ErrMany},
		{"a symbol with two arguments, one number more, of size 3", withTable(three, 2, make([]int64, 10)...), impl.ErrMany},
		{"a symbol with two arguments, Size times 2 numbers", withTable(three, 2, make([]int64, 6)...), impl.ErrMany},
		{"a symbol with two arguments, as many numbers as for one", withTable(two, 2, 0, 0), impl.ErrMany},
		{"a symbol with two arguments, very many numbers", withTable(two, 2, make([]int64, 70000)...), impl.ErrMany},
		{"-1 of a symbol without arguments", withTable(two, 0, -1), impl.ErrRange},
		{"Size - 1 of a symbol without arguments", withTable(two, 0, 1), impl.OK},
		{"Size of a symbol without arguments", withTable(two, 0, 2), impl.ErrRange},
		{"-1 at the first place", withTable(two, 1, -1, 0), impl.ErrRange},
		{"-1 at the last place", withTable(two, 1, 0, -1), impl.ErrRange},
		{"Size - 1 at the last place", withTable(two, 1, 0, 1), impl.OK},
		{"Size at the last place", withTable(two, 1, 0, 2), impl.ErrRange},
		{"-1 at the last place of two arguments", withTable(three, 2, 0, 0, 0, 0, 0, 0, 0, 0, -1), impl.ErrRange},
		{"Size - 1 at all places of two arguments", withTable(three, 2, 2, 2, 2, 2, 2, 2, 2, 2, 2), impl.OK},
		{"Size at the last place of two arguments", withTable(three, 2, 0, 0, 0, 0, 0, 0, 0, 0, 3), impl.ErrRange},
		{"Size in the middle", withTable(three, 2, 0, 0, 0, 0, 3, 0, 0, 0, 0), impl.ErrRange},
		{"Size of the last symbol", withTable(three, 3, 3), impl.ErrRange},
		{"Size, of size 1", withTable(onePoint(), 2, 1), impl.ErrRange},
		{"-1, of size 1", withTable(onePoint(), 3, -1), impl.ErrRange},
		{"the least number", withTable(two, 3, math.MinInt64), impl.ErrRange},
		{"the greatest number", withTable(two, 3, math.MaxInt64), impl.ErrRange},
		{"1 and what is lost in 8 bits", withTable(two, 3, 257), impl.ErrRange},
		{"1 and what is lost in 32 bits", withTable(two, 3, 1<<32+1), impl.ErrRange},
	} {
		mustBe(t, "AlgebraFault: "+c.what, impl.AlgebraFault(s, c.a), c.code)
		mustBe(t, "what is wanted: "+c.what, wantAlgebraFault(s, c.a), c.code)
		mustBe(t, "EvalTerm: "+c.what, impl.EvalTerm(s, c.a, make([]int64, 6), []int64{-1}), impl.IntResult{Code: c.code})
		checkHolds(t, s, c.a, law("A=A"), law("m(A,B)=m(B,A)"))
		mustBe(t, "AllHold, no equations: "+c.what, impl.AllHold(s, c.a, nil), wantAllHold(s, c.a, nil))
	}
}

func TestAlgebraFaultAsksCodesInTheirOrder(t *testing.T) {
	s, two, taken := exampleSignature(), groupOfTwo(), signature(impl.Symbol{Name: "a"}, impl.Symbol{Name: "a"})
	for _, c := range []struct {
		what string
		s    impl.Signature
		a    impl.Algebra
		code int64
	}{
		{"the signature ahead of the size", taken, algebra(0, []int64{0}, []int64{0}), impl.ErrTaken},
		{"the signature ahead of the count of tables", taken, algebra(2), impl.ErrTaken},
		{"the signature ahead of a table's length", taken, algebra(2, nil, nil), impl.ErrTaken},
		{"the signature ahead of a number", taken, algebra(2, []int64{2}, []int64{0}), impl.ErrTaken},
		{"the signature of an algebra without a fault else", taken, algebra(2, []int64{0}, []int64{0}), impl.ErrTaken},
		{"no symbols at all", impl.Signature{}, algebra(0), impl.ErrMany},
		{"no symbols at all, and no tables", impl.Signature{}, algebra(1), impl.ErrMany},
		{"a signature without a constant", noConstants(), algebra(1, []int64{0}), impl.ErrNone},
		{"a symbol's name", signature(impl.Symbol{Name: "A"}), algebra(0), impl.ErrText},
		{"the size ahead of the count of tables", s, algebra(0), impl.ErrRange},
		{"the size ahead of a table's length", s, algebra(4, nil, nil, nil, nil), impl.ErrRange},
		{"the count of tables ahead of the first one's length", s, algebra(2, nil), impl.ErrMany},
		{"the count of tables ahead of the first one's number", s, algebra(2, []int64{2}), impl.ErrMany},
		{"one table more ahead of the first one's number", s, algebra(2, append(withTable(two, 0, 2).Tables, []int64{0})...), impl.ErrMany},
		{"a table's length ahead of its own number", s, withTable(two, 1, 2), impl.ErrMany},
		{"a table's length, one more, ahead of its own number", s, withTable(two, 1, 2, 2, 2), impl.ErrMany},
		{"the first table's number ahead of the second one's length", s, withTable(withTable(two, 0, 2), 1, 0), impl.ErrRange},
		{"the first table's length ahead of the second one's number", s, withTable(withTable(two, 0), 1, 0, 2), impl.ErrMany},
		{"the second table's number ahead of the last one's length", s, withTable(withTable(two, 1, 0, -1), 3), impl.ErrRange},
		{"the second table's length ahead of the last one's number", s, withTable(withTable(two, 1, 0), 3, -1), impl.ErrMany},
	} {
		mustBe(t, "AlgebraFault: "+c.what, impl.AlgebraFault(c.s, c.a), c.code)
		mustBe(t, "what is wanted: "+c.what, wantAlgebraFault(c.s, c.a), c.code)
		told := impl.IntResult{Code: c.code}
		for _, term := range [][]int64{nil, {-1}, {-7}, {9}, {1}, chain(25)} {
			for _, values := range [][]int64{nil, {9}, make([]int64, 6), slices.Repeat([]int64{9}, 6), make([]int64, 7)} {
				mustBe(t, "EvalTerm: "+c.what, impl.EvalTerm(c.s, c.a, values, term), told)
			}
			mustBe(t, "Holds: "+c.what, impl.Holds(c.s, c.a, equation(term, term)), told)
			for _, count := range []int{0, 1, 13} {
				mustBe(t, "AllHold: "+c.what, impl.AllHold(c.s, c.a, slices.Repeat([]impl.Equation{equation(term, term)}, count)), told)
			}
		}
	}
}

func TestAlgebraFaultOfWhateverTables(t *testing.T) {
	tables := [][]int64{nil, {}, {0}, {1}, {2}, {3}, {-1}, {0, 0}, {0, 1}, {1, 2}, {0, 0, 0}, {2, 2, 2}, {0, 0, 3}, {0, 1, 1, 0}, {0, 0, 0, 2}, make([]int64, 8), make([]int64, 9), make([]int64, 10), slices.Repeat([]int64{2}, 9)}
	for _, s := range fewSignatures() {
		for _, size := range []int64{0, 1, 2, 3, 4} {
			for _, first := range tables {
				for _, other := range tables {
					list := append([][]int64{first}, slices.Repeat([][]int64{other}, max(0, len(s.Symbols)-1))...)
					a := algebra(size, list...)
					mustBe(t, fmt.Sprintf("AlgebraFault of %s in %.60v", briefAlgebra(a), s), impl.AlgebraFault(s, a), wantAlgebraFault(s, a))
				}
			}
		}
	}
	for _, s := range allSignatures() {
		for _, size := range edgeNumbers {
			for count := range 3 {
				a := algebra(size, slices.Repeat([][]int64{{0}}, max(0, len(s.Symbols)+count-1))...)
				mustBe(t, fmt.Sprintf("AlgebraFault of %s in %.60v", briefAlgebra(a), s), impl.AlgebraFault(s, a), wantAlgebraFault(s, a))
			}
		}
	}
}

func TestAlgebraFaultOfEachTableTurned(t *testing.T) {
	s := exampleSignature()
	for _, whole := range someAlgebras() {
		mustBe(t, "AlgebraFault of "+briefAlgebra(whole), impl.AlgebraFault(s, whole), int64(impl.OK))
		for symbol, table := range whole.Tables {
			for place := range table {
				for _, number := range edgeNodes {
					turned := withTable(whole, symbol, slices.Clone(table)...)
					turned.Tables[symbol][place] = number
					mustBe(t, "AlgebraFault of "+briefAlgebra(turned), impl.AlgebraFault(s, turned), wantAlgebraFault(s, turned))
				}
			}
			for length := range 12 {
				turned := withTable(whole, symbol, make([]int64, length)...)
				mustBe(t, "AlgebraFault of "+briefAlgebra(turned), impl.AlgebraFault(s, turned), wantAlgebraFault(s, turned))
			}
		}
	}
}

func TestAlgebraOfKnownValues(t *testing.T) {
	s := exampleSignature()
	for _, c := range []struct {
		seed int64
		want impl.Algebra
	}{
		// The seed goes 1, 228, 51757, 20581, 19897, 61192, 133, 30192, 39401, 33172, 60651, 8368, 64949, 1199.
		{0, algebra(1, []int64{0}, []int64{0}, []int64{0}, []int64{0})},
		{0, algebra(2, []int64{1}, []int64{0, 1}, []int64{1, 1, 0, 1}, []int64{0})},
		{0, algebra(3, []int64{1}, []int64{0, 1, 1}, []int64{1, 1, 1, 0, 2, 1, 0, 1, 2}, []int64{2})},
		// The seed goes 65295, 14220, 17412, 21265, 44123, 56730, 35595, 20983 and on.
		{65520, algebra(1, []int64{0}, []int64{0}, []int64{0}, []int64{0})},
		{65520, algebra(2, []int64{1}, []int64{0, 0}, []int64{1, 1, 0, 1}, []int64{1})},
		{65520, algebra(3, []int64{0}, []int64{0, 0, 1}, []int64{2, 0, 0, 1, 0, 2, 1, 1, 1}, []int64{1})},
	} {
		mustBe(t, fmt.Sprint("AlgebraOf ", c.want.Size, " and ", c.seed), impl.AlgebraOf(s, c.want.Size, c.seed), impl.AlgebraResult{Algebra: c.want})
		mustBe(t, fmt.Sprint("what is wanted of ", c.want.Size, " and ", c.seed), wantAlgebra(s, c.want.Size, c.seed), impl.AlgebraResult{Algebra: c.want})
	}
	mustBe(t, "AlgebraOf symbols without arguments, of size 3", impl.AlgebraOf(constants(3), 3, 65520), impl.AlgebraResult{Algebra: algebra(3, []int64{0}, []int64{0}, []int64{0})})
	mustBe(t, "AlgebraOf symbols without arguments, of size 2", impl.AlgebraOf(constants(2), 2, 65520), impl.AlgebraResult{Algebra: algebra(2, []int64{1}, []int64{0})})
	turned := signature(impl.Symbol{Name: "m", Arity: 2}, impl.Symbol{Name: "i", Arity: 1}, impl.Symbol{Name: "e"})
	mustBe(t, "AlgebraOf symbols the other way round", impl.AlgebraOf(turned, 2, 0), impl.AlgebraResult{Algebra: algebra(2, []int64{1, 0, 1, 1}, []int64{1, 0}, []int64{1})})
}

func TestAlgebraOfBounds(t *testing.T) {
	s, taken := exampleSignature(), signature(impl.Symbol{Name: "a"}, impl.Symbol{Name: "a"})
	seeds := slices.Concat(edgeNumbers, []int64{65519, 65520, 65521, 65522, 131041, 131042})
	for _, size := range slices.Concat(edgeNumbers, []int64{3, 4, 5, 1<<32 + 1, 1<<32 + 2}) {
		for _, seed := range seeds {
			code := int64(impl.ErrRange)
			if size >= 1 && size <= 3 && seed >= 0 && seed <= 65520 {
				code = impl.OK
			}
			who := fmt.Sprint("AlgebraOf ", size, " and ", seed)
			mustBe(t, "the code of "+who, impl.AlgebraOf(s, size, seed).Code, code)
			mustBe(t, who, impl.AlgebraOf(s, size, seed), wantAlgebra(s, size, seed))
			mustBe(t, who+", the signature ahead", impl.AlgebraOf(taken, size, seed), impl.AlgebraResult{Code: impl.ErrTaken})
			mustBe(t, who+", no symbols at all", impl.AlgebraOf(impl.Signature{}, size, seed), impl.AlgebraResult{Code: impl.ErrMany})
			mustBe(t, who+", no constant", impl.AlgebraOf(noConstants(), size, seed), impl.AlgebraResult{Code: impl.ErrNone})
		}
	}
}

func TestAlgebraOfManySeeds(t *testing.T) {
	for i, s := range goodSignatures() {
		for _, size := range []int64{1, 2, 3} {
			for seed := int64(i); seed <= 65520; seed += 1013 {
				told := impl.AlgebraOf(s, size, seed)
				mustBe(t, fmt.Sprintf("AlgebraOf %d and %d in %.60v", size, seed, s), told, wantAlgebra(s, size, seed))
				mustBe(t, fmt.Sprintf("AlgebraFault of AlgebraOf %d and %d in %.60v", size, seed, s), impl.AlgebraFault(s, told.Algebra), int64(impl.OK))
			}
		}
	}
	for _, s := range allSignatures() {
		for _, size := range []int64{0, 1, 2, 3, 4} {
			mustBe(t, fmt.Sprintf("AlgebraOf %d in %.60v", size, s), impl.AlgebraOf(s, size, 9), wantAlgebra(s, size, 9))
		}
	}
}

func TestEvalTermKnownValues(t *testing.T) {
	s, values := exampleSignature(), []int64{0, 1, 2, 0, 1, 2}
	for _, c := range []struct {
		text string
		want int64
	}{
		{"A", 0}, {"B", 1}, {"C", 2}, {"D", 0}, {"E", 1}, {"F", 2}, {"e", 2}, {"a", 1},
		{"i(A)", 1}, {"i(B)", 2}, {"i(C)", 0}, {"i(e)", 0}, {"i(a)", 2}, {"i(i(A))", 2}, {"i(i(i(A)))", 0},
		{"m(A,A)", 0}, {"m(A,B)", 2}, {"m(B,A)", 1}, {"m(A,C)", 1}, {"m(C,A)", 2}, {"m(B,C)", 2}, {"m(C,B)", 1}, {"m(D,F)", 1}, {"m(F,D)", 2}, {"m(F,F)", 0},
		{"m(e,a)", 1}, {"m(a,e)", 2}, {"m(e,A)", 2}, {"m(A,e)", 1},
		{"m(m(A,B),C)", 0}, {"m(A,m(B,C))", 1}, {"m(m(C,B),A)", 1}, {"m(C,m(B,A))", 1}, {"m(m(A,B),m(C,A))", 0}, {"m(m(C,A),m(B,F))", 0}, {"m(m(A,B),m(B,A))", 1},
		{"i(m(A,B))", 0}, {"m(i(A),B)", 0}, {"m(A,i(B))", 1}, {"m(i(A),i(B))", 2}, {"m(i(B),A)", 2}, {"m(B,i(A))", 0}, {"i(m(i(e),m(a,i(F))))", 0},
	} {
		mustBe(t, "EvalTerm of "+c.text, impl.EvalTerm(s, differences(), values, read(c.text)), impl.IntResult{Value: c.want})
		mustBe(t, "what is wanted of "+c.text, wantValue(s, differences(), values, read(c.text)), impl.IntResult{Value: c.want})
		mustBe(t, "EvalTerm by one point of "+c.text, impl.EvalTerm(s, onePoint(), make([]int64, 6), read(c.text)), impl.IntResult{})
	}
	two := []int64{1, 0, 0, 0, 0, 1}
	for _, c := range []struct {
		text        string
		group, left int64
	}{
		{"A", 1, 1}, {"B", 0, 0}, {"F", 1, 1}, {"e", 0, 1}, {"a", 1, 0}, {"i(A)", 1, 0}, {"i(B)", 0, 1}, {"m(A,B)", 1, 1}, {"m(B,A)", 1, 0}, {"m(A,F)", 0, 1}, {"m(B,C)", 0, 0},
		{"m(m(A,B),F)", 0, 1}, {"m(B,m(A,F))", 0, 0}, {"m(i(B),a)", 1, 1}, {"m(a,i(B))", 1, 0}, {"i(m(B,A))", 1, 1}, {"m(e,a)", 1, 1}, {"m(a,e)", 1, 0},
	} {
		mustBe(t, "EvalTerm in the group of two of "+c.text, impl.EvalTerm(s, groupOfTwo(), two, read(c.text)), impl.IntResult{Value: c.group})
		mustBe(t, "EvalTerm by the first of two of "+c.text, impl.EvalTerm(s, firstOfTwo(), two, read(c.text)), impl.IntResult{Value: c.left})
	}
}

func TestEvalTermReadsEachPlaceOfATable(t *testing.T) {
	s := exampleSignature()
	for size, rows := range valueRows {
		for x := range size {
			for y := range size {
				// Beside this one all numbers of the table are another value.
				for number := range size {
					other := (number + 1) % size
					table := slices.Repeat([]int64{other}, int(size*size))
					table[x*size+y] = number
					a := withTable(wantAlgebra(s, size, 3).Algebra, 2, table...)
					for _, values := range rows {
						want := other
						if values[4] == x && values[1] == y {
							want = number
						}
						mustBe(t, fmt.Sprint("EvalTerm of m(E,B) with ", values, " by ", table), impl.EvalTerm(s, a, values, read("m(E,B)")), impl.IntResult{Value: want})
					}
				}
			}
		}
	}
}

func TestEvalTermBounds(t *testing.T) {
	s, two, three := exampleSignature(), groupOfTwo(), groupOfThree()
	for _, c := range []struct {
		what   string
		a      impl.Algebra
		values []int64
		term   []int64
		want   impl.IntResult
	}{
		{"no values", two, nil, read("a"), impl.IntResult{Code: impl.ErrMany}},
		{"one value", two, []int64{0}, read("A"), impl.IntResult{Code: impl.ErrMany}},
		{"one value fewer than MaxRuleVars", two, make([]int64, 5), read("A"), impl.IntResult{Code: impl.ErrMany}},
		{"just MaxRuleVars values", two, make([]int64, 6), read("a"), impl.IntResult{Value: 1}},
		{"one value more than MaxRuleVars", two, make([]int64, 7), read("A"), impl.IntResult{Code: impl.ErrMany}},
		{"MaxVars values", two, make([]int64, 12), read("G"), impl.IntResult{Code: impl.ErrMany}},
		{"very many values", two, make([]int64, 70000), read("A"), impl.IntResult{Code: impl.ErrMany}},
		{"the value -1", two, []int64{-1, 0, 0, 0, 0, 0}, read("A"), impl.IntResult{Code: impl.ErrRange}},
		{"the value Size - 1", two, []int64{1, 0, 0, 0, 0, 0}, read("A"), impl.IntResult{Value: 1}},
		{"the value Size", two, []int64{2, 0, 0, 0, 0, 0}, read("A"), impl.IntResult{Code: impl.ErrRange}},
		{"the value Size - 1, of size 3", three, []int64{2, 0, 0, 0, 0, 0}, read("A"), impl.IntResult{Value: 2}},
		{"the value Size, of size 3", three, []int64{3, 0, 0, 0, 0, 0}, read("A"), impl.IntResult{Code: impl.ErrRange}},
		{"the value Size, of size 1", onePoint(), []int64{1, 0, 0, 0, 0, 0}, read("A"), impl.IntResult{Code: impl.ErrRange}},
		{"the value -1 of the last variable", two, []int64{0, 0, 0, 0, 0, -1}, read("F"), impl.IntResult{Code: impl.ErrRange}},
		{"the value Size of the last variable", two, []int64{0, 0, 0, 0, 0, 2}, read("F"), impl.IntResult{Code: impl.ErrRange}},
		{"the value -1 of a variable that is not there", two, []int64{0, 0, 0, 0, 0, -1}, read("A"), impl.IntResult{Code: impl.ErrRange}},
		{"the value Size of a variable that is not there", two, []int64{0, 0, 0, 0, 0, 2}, read("a"), impl.IntResult{Code: impl.ErrRange}},
		{"the value Size in the middle", two, []int64{0, 0, 2, 0, 0, 0}, read("a"), impl.IntResult{Code: impl.ErrRange}},
		{"the greatest number as value", two, []int64{0, 0, 0, 0, 0, math.MaxInt64}, read("F"), impl.IntResult{Code: impl.ErrRange}},
		{"the least number as value", two, []int64{math.MinInt64, 0, 0, 0, 0, 0}, read("A"), impl.IntResult{Code: impl.ErrRange}},
		{"1 and what is lost in 8 bits as value", two, []int64{257, 0, 0, 0, 0, 0}, read("A"), impl.IntResult{Code: impl.ErrRange}},
		{"the variable just below MaxRuleVars", two, []int64{0, 0, 0, 0, 0, 1}, read("F"), impl.IntResult{Value: 1}},
		{"the variable MaxRuleVars", two, make([]int64, 6), read("G"), impl.IntResult{Code: impl.ErrRange}},
		{"the last variable", two, make([]int64, 6), read("L"), impl.IntResult{Code: impl.ErrRange}},
		{"the variable MaxRuleVars inside", two, make([]int64, 6), read("m(A,i(G))"), impl.IntResult{Code: impl.ErrRange}},
		{"the variable MaxRuleVars, of size 1", onePoint(), make([]int64, 6), read("m(G,e)"), impl.IntResult{Code: impl.ErrRange}},
		{"the variable MaxVars is no node", two, make([]int64, 6), []int64{-13}, impl.IntResult{Code: impl.ErrRange}},
		{"a term of MaxNodes", two, make([]int64, 6), chain(24), impl.IntResult{Value: 1}},
		{"a term of one node more", two, make([]int64, 6), chain(25), impl.IntResult{Code: impl.ErrMany}},
		{"the term ahead of one value fewer", two, make([]int64, 5), []int64{4}, impl.IntResult{Code: impl.ErrRange}},
		{"the term's form ahead of one value more", two, make([]int64, 7), []int64{1}, impl.IntResult{Code: impl.ErrForm}},
		{"the term's form ahead of the value Size", two, slices.Repeat([]int64{2}, 6), []int64{2, 0}, impl.IntResult{Code: impl.ErrForm}},
		{"the term's form ahead of its variable", two, make([]int64, 6), []int64{2, -7}, impl.IntResult{Code: impl.ErrForm}},
		{"no term ahead of no values", two, nil, nil, impl.IntResult{Code: impl.ErrMany}},
		{"no term ahead of the value Size", two, slices.Repeat([]int64{2}, 6), nil, impl.IntResult{Code: impl.ErrMany}},
		{"one value fewer ahead of the value Size", two, slices.Repeat([]int64{2}, 5), read("A"), impl.IntResult{Code: impl.ErrMany}},
		{"one value more ahead of the value -1", two, slices.Repeat([]int64{-1}, 7), read("A"), impl.IntResult{Code: impl.ErrMany}},
		{"one value fewer ahead of a variable", two, make([]int64, 5), read("G"), impl.IntResult{Code: impl.ErrMany}},
		{"one value more ahead of a variable that it could be that of", two, make([]int64, 7), read("G"), impl.IntResult{Code: impl.ErrMany}},
	} {
		mustBe(t, "EvalTerm: "+c.what, impl.EvalTerm(s, c.a, c.values, c.term), c.want)
		mustBe(t, "what is wanted: "+c.what, wantValue(s, c.a, c.values, c.term), c.want)
	}
}

func TestEvalTermOfAllSmallTerms(t *testing.T) {
	s := exampleSignature()
	for i, term := range ruleTerms(4, -1, -6) {
		for j, a := range someAlgebras() {
			checkValue(t, s, a, someValues[0], term)
			rows := valueRows[a.Size]
			checkValue(t, s, a, rows[(31*i+17*j)%len(rows)], term)
		}
	}
	for _, term := range ruleTerms(3, -1, -6) {
		for _, a := range someAlgebras() {
			for x := range a.Size {
				for y := range a.Size {
					checkValue(t, s, a, []int64{x, 0, 0, 0, 0, y}, term)
				}
			}
		}
	}
}

func TestEvalTermOfWhateverLists(t *testing.T) {
	algebras := append(someAlgebras(), impl.Algebra{}, withSize(groupOfTwo(), 3), withTable(groupOfTwo(), 3, 2))
	valueLists := slices.Concat(someValues, [][]int64{nil, {}, {0, 0, 0, 0, 0}, {0, 0, 0, 0, 0, 0, 0}, {0, 0, 0, 0, 0, -1}, {3, 0, 0, 0, 0, 0}})
	for _, s := range fewSignatures() {
		for i, a := range algebras {
			for j, term := range slices.Concat(someTerms(), longLists()) {
				checkValue(t, s, a, valueLists[(i+j)%len(valueLists)], term)
				checkValue(t, exampleSignature(), a, valueLists[(i+3*j)%len(valueLists)], term)
			}
		}
	}
	for _, a := range someAlgebras() {
		for _, node := range edgeNodes {
			checkValue(t, exampleSignature(), a, make([]int64, 6), []int64{node})
			checkValue(t, exampleSignature(), a, make([]int64, 6), []int64{2, 0, node})
			for place := range 6 {
				values := make([]int64, 6)
				values[place] = node
				checkValue(t, exampleSignature(), a, values, []int64{2, -1, -6})
			}
		}
	}
}

func TestEvalTermInEverySignature(t *testing.T) {
	for i, s := range goodSignatures() {
		terms := slices.Concat(termsOver(s, []int64{-1, -6}, 1), termsOver(s, []int64{-1, -6}, 2), termsOver(s, []int64{-1, -6}, 3))
		for _, size := range []int64{1, 2, 3} {
			for seed := range int64(6) {
				a := wantAlgebra(s, size, 9973*seed+int64(i)).Algebra
				for j, term := range terms[:min(len(terms), 200)] {
					checkValue(t, s, a, valueRows[size][(i+7*j)%len(valueRows[size])], term)
				}
			}
		}
	}
}

func TestEvalTermOfManyTerms(t *testing.T) {
	s, numbers, met := crowd(), numbersByRule(171), map[[2]int64]int{}
	for range 12000 {
		size := int64(1 + numbers.below(3))
		a := wantAlgebra(s, size, int64(numbers.below(65521))).Algebra
		term := numbers.crowdTerm(1+numbers.below(24), 6)
		values := valueRows[size][numbers.below(len(valueRows[size]))]
		checkValue(t, s, a, values, term)
		met[[2]int64{size, impl.EvalTerm(s, a, values, term).Value}]++
	}
	if len(met) != 6 || slices.Min([]int{met[[2]int64{2, 0}], met[[2]int64{2, 1}], met[[2]int64{3, 0}], met[[2]int64{3, 1}], met[[2]int64{3, 2}]}) < 300 {
		t.Errorf("by size and value there were %v", met)
	}
}

func TestHoldsKnownValues(t *testing.T) {
	s, point, two, three, least := exampleSignature(), onePoint(), groupOfTwo(), groupOfThree(), leastOfThree()
	for _, c := range []struct {
		what string
		a    impl.Algebra
		text string
		want int64
	}{
		{"one side twice", three, "m(A,i(B))=m(A,i(B))", 1},
		{"for all values", two, "m(e,A)=A", 1},
		{"for all values of two variables", two, "m(A,B)=m(B,A)", 1},
		{"for all values of three variables", three, "m(m(A,B),C)=m(A,m(B,C))", 1},
		{"for the value 0 alone", two, "m(A,A)=A", 0},
		{"for the value 1 alone", two, "m(A,a)=e", 0},
		{"for no value", two, "m(A,a)=A", 0},
		{"for the value 0 alone, of size 3", three, "i(A)=A", 0},
		{"for the value 1 alone, of size 3", three, "m(A,A)=i(a)", 0},
		{"for the value 2 alone, of size 3", three, "A=i(a)", 0},
		{"for all values but the last one", least, "i(A)=e", 0},
		{"for all values but the first one", least, "m(A,A)=m(A,m(a,A))", 1},
		{"for both variables being the same alone", two, "A=B", 0},
		{"for both variables being the same alone, of size 3", three, "m(A,i(B))=e", 0},
		{"for all values but the last ones of six variables", least, "i(m(A,m(B,m(C,m(D,m(E,F))))))=e", 0},
		{"for all values of six variables", least, "i(i(m(A,m(B,m(C,m(D,m(E,F)))))))=e", 1},
		{"for all values of six variables in another order", least, "m(A,m(B,m(C,m(D,m(E,F)))))=m(m(m(m(m(F,B),D),C),E),A)", 1},
		{"a variable on the left alone", two, "m(A,A)=e", 1},
		{"a variable on the right alone", two, "e=m(B,B)", 1},
		{"a variable on the right alone, for one value alone", two, "e=F", 0},
		{"a variable on the left alone, for one value alone", two, "F=e", 0},
		{"another variable on each side", least, "i(i(A))=i(i(F))", 1},
		{"no variables, so", two, "m(a,a)=e", 1},
		{"no variables, not so", two, "a=e", 0},
		{"no variables, one side twice", two, "a=a", 1},
		{"no variables, of size 3", three, "m(a,a)=i(a)", 1},
		{"no variables, not so, of size 3", three, "m(a,a)=a", 0},
		{"the last variables of rules", two, "m(E,F)=m(F,E)", 1},
		{"the last variables of rules, not so", firstOfTwo(), "m(E,F)=m(F,E)", 0},
		{"the first one of two", firstOfTwo(), "m(A,B)=A", 1},
		{"the second one of two", firstOfTwo(), "m(A,B)=B", 0},
		{"the sides the other way round", firstOfTwo(), "A=m(A,B)", 1},
		{"what holds in size 2 alone, in size 2", two, "i(A)=A", 1},
		{"all is the same in one point", point, "m(i(A),e)=m(a,B)", 1},
		{"all is the same in one point, two variables", point, "A=B", 1},
		{"all is the same in one point, six variables", point, "m(A,m(B,C))=m(D,m(E,F))", 1},
		{"all is the same in one point, no variables", point, "a=e", 1},
	} {
		mustBe(t, "Holds: "+c.what, impl.Holds(s, c.a, law(c.text)), impl.IntResult{Value: c.want})
		mustBe(t, "what is wanted: "+c.what, wantHolds(s, c.a, law(c.text)), impl.IntResult{Value: c.want})
		mustBe(t, "AllHold, one alone: "+c.what, impl.AllHold(s, c.a, laws(c.text)), impl.IntResult{Value: c.want})
		mustBe(t, "AllHold, the first one of two: "+c.what, impl.AllHold(s, c.a, laws(c.text, "A=A")), impl.IntResult{Value: c.want})
		mustBe(t, "AllHold, the last one of three: "+c.what, impl.AllHold(s, c.a, laws("A=A", "e=e", c.text)), impl.IntResult{Value: c.want})
		for _, a := range someAlgebras() {
			checkHolds(t, s, a, law(c.text), equation(law(c.text).Right, law(c.text).Left))
		}
	}
}

func TestHoldsAsksEachRowOfValues(t *testing.T) {
	// q, r and t tell of their argument whether it is 0, 1 or 2, and m whether both of its arguments are 1.
	s := signature(impl.Symbol{Name: "e"}, impl.Symbol{Name: "q", Arity: 1}, impl.Symbol{Name: "r", Arity: 1}, impl.Symbol{Name: "t", Arity: 1}, impl.Symbol{Name: "m", Arity: 2})
	three := algebra(3, []int64{0}, []int64{1, 0, 0}, []int64{0, 1, 0}, []int64{0, 0, 1}, []int64{0, 0, 0, 0, 1, 0, 0, 0, 0})
	two := algebra(2, []int64{0}, []int64{1, 0}, []int64{0, 1}, []int64{0, 0}, []int64{0, 0, 0, 1})
	for _, a := range []impl.Algebra{two, three} {
		for _, values := range valueRows[a.Size] {
			for count := 1; count <= 6; count++ {
				term := []int64{1 + values[0], -1}
				for variable, value := range values[1:count] {
					term = slices.Concat([]int64{4, 1 + value, int64(-2 - variable)}, term)
				}
				who := fmt.Sprint(" of what is not so for ", values[:count], " alone, of size ", a.Size)
				mustBe(t, "Holds"+who, impl.Holds(s, a, equation(term, []int64{0})), impl.IntResult{})
				mustBe(t, "AllHold"+who, impl.AllHold(s, a, []impl.Equation{equation([]int64{0}, []int64{0}), equation([]int64{0}, term)}), impl.IntResult{})
				// The first variable is another value, too: so this is so for none.
				never := slices.Concat([]int64{4, 1 + (values[0]+1)%a.Size, -1}, term)
				mustBe(t, "Holds of what is so for all, of size "+fmt.Sprint(a.Size), impl.Holds(s, a, equation(never, []int64{0})), impl.IntResult{Value: 1})
			}
		}
	}
}

func TestHoldsAsksCodesInTheirOrder(t *testing.T) {
	s, two, code := exampleSignature(), groupOfTwo(), func(code int64) impl.IntResult { return impl.IntResult{Code: code} }
	for _, c := range []struct {
		what string
		e    impl.Equation
		want impl.IntResult
	}{
		{"no sides", impl.Equation{}, code(impl.ErrMany)},
		{"no left side", equation(nil, read("e")), code(impl.ErrMany)},
		{"no right side", equation(read("e"), nil), code(impl.ErrMany)},
		{"a left side of one node more than MaxNodes", equation(chain(25), read("e")), code(impl.ErrMany)},
		{"a right side of one node more than MaxNodes", equation(read("e"), chain(25)), code(impl.ErrMany)},
		{"sides of MaxNodes", equation(chain(24), chain(24)), impl.IntResult{Value: 1}},
		{"a left node", equation([]int64{4}, read("e")), code(impl.ErrRange)},
		{"half a left side", equation([]int64{1}, read("e")), code(impl.ErrForm)},
		{"half a right side", equation(read("e"), []int64{2, 0}), code(impl.ErrForm)},
		{"the variable just below MaxRuleVars", law("F=F"), impl.IntResult{Value: 1}},
		{"the variable MaxRuleVars on the left", law("m(G,G)=e"), code(impl.ErrRange)},
		{"the variable MaxRuleVars on the right", law("e=m(G,G)"), code(impl.ErrRange)},
		{"the variable MaxRuleVars on both sides", law("G=G"), code(impl.ErrRange)},
		{"the last variable", law("L=L"), code(impl.ErrRange)},
		{"half a right side ahead of a left variable", equation(read("G"), []int64{1}), code(impl.ErrForm)},
		{"half a left side ahead of no right side", equation([]int64{1}, nil), code(impl.ErrForm)},
		{"no right side ahead of what is not so", equation(read("m(A,a)"), nil), code(impl.ErrMany)},
	} {
		mustBe(t, "Holds: "+c.what, impl.Holds(s, two, c.e), c.want)
		mustBe(t, "what is wanted: "+c.what, wantHolds(s, two, c.e), c.want)
		mustBe(t, "AllHold: "+c.what, impl.AllHold(s, two, []impl.Equation{c.e}), c.want)
		mustBe(t, "AllHold, behind one that holds: "+c.what, impl.AllHold(s, two, []impl.Equation{law("A=A"), c.e}), c.want)
		for _, a := range someAlgebras() {
			checkHolds(t, s, a, c.e, law("e=a"), law("A=A"))
			checkHolds(t, s, a, law("e=a"), c.e)
		}
	}
}

func TestAllHoldKnownValues(t *testing.T) {
	s, two, yes, no := exampleSignature(), groupOfTwo(), impl.IntResult{Value: 1}, impl.IntResult{}
	good, bad, fault := law("m(A,A)=e"), law("e=a"), law("G=G")
	for _, c := range []struct {
		what string
		list []impl.Equation
		want impl.IntResult
	}{
		{"no equations", nil, yes},
		{"one that holds", []impl.Equation{good}, yes},
		{"one that does not", []impl.Equation{bad}, no},
		{"one that holds and one that does not", []impl.Equation{good, bad}, no},
		{"one that does not and one that holds", []impl.Equation{bad, good}, no},
		{"two that hold", laws("m(A,B)=m(B,A)", "i(A)=A"), yes},
		{"two that do not", laws("A=B", "e=a"), no},
		{"one that holds for the first values alone, and one for the others", laws("m(A,A)=A", "m(A,a)=e"), no},
		{"all rules of groups", groupLaws(), yes},
		{"MaxEquations", slices.Repeat([]impl.Equation{good}, 12), yes},
		{"MaxEquations, the last one does not hold", append(slices.Repeat([]impl.Equation{good}, 11), bad), no},
		{"MaxEquations, the first one does not hold", append([]impl.Equation{bad}, slices.Repeat([]impl.Equation{good}, 11)...), no},
		{"one more than MaxEquations", slices.Repeat([]impl.Equation{good}, 13), impl.IntResult{Code: impl.ErrMany}},
		{"one more than MaxEquations, and one that does not hold", slices.Repeat([]impl.Equation{bad}, 13), impl.IntResult{Code: impl.ErrMany}},
		{"very many", slices.Repeat([]impl.Equation{good}, 70000), impl.IntResult{Code: impl.ErrMany}},
		{"too many ahead of a fault of the first one", append([]impl.Equation{fault}, slices.Repeat([]impl.Equation{good}, 12)...), impl.IntResult{Code: impl.ErrMany}},
		{"a fault of the second one", []impl.Equation{good, fault}, impl.IntResult{Code: impl.ErrRange}},
		{"a fault of the second one, behind one that does not hold", []impl.Equation{bad, fault}, impl.IntResult{Code: impl.ErrRange}},
		{"a fault of the last one, behind one that does not hold", append(slices.Repeat([]impl.Equation{bad}, 11), fault), impl.IntResult{Code: impl.ErrRange}},
		{"a fault of the first one", []impl.Equation{fault, bad}, impl.IntResult{Code: impl.ErrRange}},
		{"a fault of each of two", []impl.Equation{equation([]int64{1}, nil), fault}, impl.IntResult{Code: impl.ErrForm}},
		{"a fault of each of two, the other way round", []impl.Equation{fault, equation([]int64{1}, nil)}, impl.IntResult{Code: impl.ErrRange}},
	} {
		mustBe(t, "AllHold: "+c.what, impl.AllHold(s, two, c.list), c.want)
		mustBe(t, "what is wanted: "+c.what, wantAllHold(s, two, c.list), c.want)
		for _, a := range someAlgebras() {
			checkHolds(t, s, a, c.list...)
		}
	}
	mustBe(t, "AllHold of a fault of the algebra and no equations", impl.AllHold(s, impl.Algebra{}, nil), impl.IntResult{Code: impl.ErrRange})
}

func TestHoldsOfAllSmallEquations(t *testing.T) {
	s, terms := exampleSignature(), ruleTerms(3, -1, -2)
	for i, left := range terms {
		for j, right := range terms {
			a := someAlgebras()[(i+j)%len(someAlgebras())]
			checkHolds(t, s, a, equation(left, right))
		}
	}
	few := ruleTerms(2, -3, -6)
	for _, left := range few {
		for _, right := range few {
			for _, a := range someAlgebras() {
				checkHolds(t, s, a, equation(left, right))
			}
		}
	}
}

func TestHoldsOfWhateverLists(t *testing.T) {
	algebras := append(someAlgebras(), impl.Algebra{}, withSize(groupOfTwo(), 3), withTable(groupOfTwo(), 3, 2))
	for i, s := range fewSignatures() {
		for j, rules := range rewritingRules() {
			checkHolds(t, s, algebras[(i+j)%len(algebras)], rules...)
			checkHolds(t, s, algebra(2, slices.Repeat([][]int64{{1}}, len(s.Symbols))...), rules...)
		}
		for j, left := range someTerms() {
			for k, right := range someTerms() {
				checkHolds(t, s, algebras[(i+j+k)%len(algebras)], equation(left, right))
				checkHolds(t, s, wantAlgebra(s, 2, int64(j+k)).Algebra, equation(left, right))
			}
		}
	}
	for _, s := range allSignatures() {
		checkHolds(t, s, algebra(2, slices.Repeat([][]int64{{1}}, len(s.Symbols))...), equation([]int64{0}, []int64{-1}))
	}
	for i, left := range longLists() {
		for j, right := range longLists() {
			checkHolds(t, exampleSignature(), someAlgebras()[(i+j)%len(someAlgebras())], equation(left, right))
		}
	}
}

func TestHoldsOfManyEquations(t *testing.T) {
	s, numbers, met := crowd(), numbersByRule(181), map[impl.IntResult]int{}
	for range 2500 {
		a := wantAlgebra(s, int64(2+numbers.below(2)), int64(numbers.below(65521))).Algebra
		left := numbers.crowdTerm(1+numbers.below(9), 2)
		right := numbers.crowdTerm(1+numbers.below(9), 2)
		checkHolds(t, s, a, equation(left, right))
		met[impl.Holds(s, a, equation(left, right))]++
	}
	if met[impl.IntResult{}] < 300 || met[impl.IntResult{Value: 1}] < 100 {
		t.Errorf("Holds told %v", met)
	}
}

// rulesThatHold makes rules over the crowd's symbols that hold in that algebra, as many as some tries tell.
func (r *numbersByRule) rulesThatHold(a impl.Algebra, tries int) []impl.Equation {
	list := []impl.Equation{}
	for range tries {
		rule := r.rule(2+r.below(5), 1+r.below(5))
		if impl.Holds(crowd(), a, rule).Value == 1 {
			list = append(list, rule)
		}
	}
	return list[:min(len(list), 12)]
}

// someCrowdAlgebra makes an algebra over the crowd's symbols, seldom of one value.
func (r *numbersByRule) someCrowdAlgebra() impl.Algebra {
	size := []int64{1, 2, 2, 2, 3, 3}[r.below(6)]
	return impl.AlgebraOf(crowd(), size, int64(r.below(65521))).Algebra
}

// mustHold asks for one value of both sides with all values that the variables of rules may have, row by row.
func mustHold(t *testing.T, s impl.Signature, a impl.Algebra, who string, e impl.Equation) {
	t.Helper()
	for _, values := range valueRows[a.Size] {
		left, right := impl.EvalTerm(s, a, values, e.Left), impl.EvalTerm(s, a, values, e.Right)
		if left != right || left.Code != impl.OK {
			t.Errorf("%s: %v has the values %v and %v with %v by %s", who, e, left, right, values, briefAlgebra(a))
			return
		}
	}
	mustBe(t, who+": Holds of "+fmt.Sprint(e)+" by "+briefAlgebra(a), impl.Holds(s, a, e), impl.IntResult{Value: 1})
}

func TestP11BothSidesOfAPeakHaveOneValue(t *testing.T) {
	s, numbers, peaks, different := crowd(), numbersByRule(191), 0, 0
	for range 250 {
		a := numbers.someCrowdAlgebra()
		rules := numbers.rulesThatHold(a, 30)
		for _, outer := range rules[:min(len(rules), 5)] {
			for _, inner := range rules[:min(len(rules), 5)] {
				for place := range int64(len(outer.Left)) {
					peak := impl.PeakOf(s, outer, inner, place)
					if peak.Code != impl.OK {
						continue
					}
					peaks++
					if !slices.Equal(peak.Equation.Left, peak.Equation.Right) {
						different++
						mustHold(t, s, a, fmt.Sprint("a peak of ", outer, " and ", inner, " at ", place), peak.Equation)
					}
				}
			}
		}
	}
	if peaks < 2000 || different < 1000 {
		t.Errorf("only %d peaks were met, and %d with sides that are not the same", peaks, different)
	}
}

func TestP11AllPeaksHoldWhereTheRulesDo(t *testing.T) {
	s, asked := exampleSignature(), 0
	lists := [][]impl.Equation{groupLaws(), groupLaws()[:9], laws("m(m(A,B),C)=m(A,m(B,C))", "m(A,B)=m(B,A)"), laws("i(i(A))=A", "i(e)=e"), laws("m(e,A)=A", "m(e,e)=a"), laws("m(A,A)=A", "m(m(A,B),C)=m(A,m(B,C))"), laws("m(A,B)=A", "i(i(A))=A"), laws("i(i(i(A)))=A", "i(e)=a")}
	for _, rules := range lists {
		all := impl.AllPeaks(s, rules)
		mustBe(t, fmt.Sprint("the code of AllPeaks of ", rules), all.Code, int64(impl.OK))
		for _, a := range someAlgebras() {
			if impl.AllHold(s, a, rules).Value != 1 {
				continue
			}
			asked++
			for _, peak := range all.List {
				mustHold(t, s, a, fmt.Sprint("a peak of ", rules), peak)
			}
		}
	}
	if asked < 14 {
		t.Errorf("rules held in algebras only %d times", asked)
	}
}

func TestP11WhereRulesDoNotHoldSomePeakDoesNot(t *testing.T) {
	s := exampleSignature()
	for _, c := range []struct {
		what         string
		outer, inner string
		place        int64
	}{
		{"two rules of which one does not hold", "m(e,e)=a", "m(e,A)=A", 0},
		{"the first and the second of two", "m(A,B)=A", "m(A,B)=B", 0},
	} {
		peak := impl.PeakOf(s, law(c.outer), law(c.inner), c.place)
		for _, a := range []impl.Algebra{groupOfTwo(), groupOfThree(), firstOfTwo(), leastOfThree()} {
			mustBe(t, c.what+": AllHold by "+briefAlgebra(a), impl.AllHold(s, a, laws(c.outer, c.inner)), impl.IntResult{})
			mustBe(t, c.what+": the peak by "+briefAlgebra(a), impl.Holds(s, a, peak.Equation), impl.IntResult{})
		}
	}
}

func TestP11ATermAndItsNormalFormHaveOneValue(t *testing.T) {
	s, numbers, rewritten := crowd(), numbersByRule(201), 0
	for range 400 {
		a := numbers.someCrowdAlgebra()
		rules := numbers.rulesThatHold(a, 40)
		for range 8 {
			term := numbers.crowdTerm(1+numbers.below(24), 6)
			told := impl.NormalForm(s, rules, term, 20)
			if told.Code == impl.OK && told.Steps > 0 {
				rewritten++
				mustHold(t, s, a, fmt.Sprint("a term and its normal form by ", rules), equation(term, told.Term))
			}
		}
	}
	if rewritten < 400 {
		t.Errorf("only %d terms were rewritten", rewritten)
	}
}

func TestP11EachStepOfRewritingLeavesTheValue(t *testing.T) {
	s, numbers, steps := crowd(), numbersByRule(211), 0
	for range 500 {
		a := numbers.someCrowdAlgebra()
		term := numbers.crowdTerm(1+numbers.below(16), 6)
		rules := numbers.rulesThatHold(a, 40)
		for number := range int64(len(rules)) {
			for place := range int64(len(term)) {
				next := impl.RewriteAt(s, rules, number, place, term)
				if next.Code == impl.OK {
					steps++
					mustHold(t, s, a, fmt.Sprint("a step at ", place, " by ", rules[number]), equation(term, next.Term))
				}
			}
		}
	}
	if steps < 500 {
		t.Errorf("only %d steps were asked", steps)
	}
}

func TestP11ATermAndItsNormalFormHaveOneValueInGroups(t *testing.T) {
	s, numbers, rewritten := exampleSignature(), numbersByRule(221), 0
	for range 300 {
		term := numbers.term(1+numbers.below(20), 6)
		told := impl.NormalForm(s, groupLaws(), term, 200)
		if told.Code != impl.OK {
			continue
		}
		rewritten++
		for _, a := range []impl.Algebra{onePoint(), groupOfTwo(), groupOfThree()} {
			mustBe(t, "AllHold of the rules of groups", impl.AllHold(s, a, groupLaws()), impl.IntResult{Value: 1})
			mustHold(t, s, a, "a term and its normal form in groups", equation(term, told.Term))
		}
	}
	if rewritten < 200 {
		t.Errorf("only %d terms had a normal form", rewritten)
	}
}

// valuesUnder gives each variable that is bound the value of its term, and leaves the others theirs.
func valuesUnder(s impl.Signature, a impl.Algebra, b impl.Binding, values []int64) []int64 {
	turned := slices.Clone(values)
	for place, variable := range b.Vars {
		turned[variable] = impl.EvalTerm(s, a, values, b.Terms[place]).Value
	}
	return turned
}

func mustHaveTheValuesOfWhatStands(t *testing.T, s impl.Signature, a impl.Algebra, b impl.Binding, term []int64, put []int64, values []int64) {
	t.Helper()
	turned := valuesUnder(s, a, b, values)
	got, want := impl.EvalTerm(s, a, values, put), impl.EvalTerm(s, a, turned, term)
	if got != want || got.Code != impl.OK {
		t.Errorf("%v with %v in it has the value %v with %v, but %v with %v, by %s", term, b, got, values, want, turned, briefAlgebra(a))
	}
}

func TestP11WhatStandsForVariablesHasItsValues(t *testing.T) {
	s, numbers, asked, turned := exampleSignature(), numbersByRule(231), 0, 0
	for range 3000 {
		term, b := numbers.term(1+numbers.below(12), 6), numbers.binding(6, 5)
		put := impl.ApplyBinding(s, b, term)
		if put.Code != impl.OK {
			continue
		}
		for _, a := range []impl.Algebra{groupOfThree(), differences(), firstOfTwo(), impl.AlgebraOf(s, int64(1+numbers.below(3)), int64(numbers.below(65521))).Algebra} {
			values := valueRows[a.Size][numbers.below(len(valueRows[a.Size]))]
			mustHaveTheValuesOfWhatStands(t, s, a, b, term, put.Term, values)
			asked++
			if impl.EvalTerm(s, a, values, put.Term) != impl.EvalTerm(s, a, values, term) {
				turned++
			}
		}
	}
	if asked < 4000 || turned < 1000 {
		t.Errorf("only %d bindings were asked, and %d turned the value", asked, turned)
	}
}

func TestP11WhatIsMatchedHasTheValuesOfItsBinding(t *testing.T) {
	s, matched := exampleSignature(), 0
	for _, pattern := range ruleTerms(3, -1, -2) {
		for _, term := range ruleTerms(4, -1, -6) {
			match := impl.MatchTerm(s, pattern, term)
			if match.Code != impl.OK {
				continue
			}
			matched++
			for _, a := range []impl.Algebra{groupOfThree(), differences(), firstOfTwo()} {
				values := valueRows[a.Size][(31*matched)%len(valueRows[a.Size])]
				mustHaveTheValuesOfWhatStands(t, s, a, match.Binding, pattern, term, values)
			}
		}
	}
	if matched < 400 {
		t.Errorf("only %d terms were matched", matched)
	}
}

func TestP11WhatHoldsHoldsWhateverStandsForItsVariables(t *testing.T) {
	s, numbers, asked := crowd(), numbersByRule(241), 0
	for range 300 {
		a := numbers.someCrowdAlgebra()
		for _, rule := range numbers.rulesThatHold(a, 20) {
			b := impl.Binding{}
			for variable := range int64(6) {
				b.Vars, b.Terms = append(b.Vars, variable), append(b.Terms, numbers.crowdTerm(1+numbers.below(4), 6))
			}
			left, right := impl.ApplyBinding(s, b, rule.Left), impl.ApplyBinding(s, b, rule.Right)
			if left.Code == impl.OK && right.Code == impl.OK {
				asked++
				mustBe(t, fmt.Sprint("Holds of ", rule, " with ", b, " by ", briefAlgebra(a)), impl.Holds(s, a, equation(left.Term, right.Term)), impl.IntResult{Value: 1})
			}
		}
	}
	if asked < 500 {
		t.Errorf("only %d equations were asked", asked)
	}
}

// algebraAnswers calls every function of the chapter with whatever of the arguments it takes.
func algebraAnswers(s impl.Signature, a impl.Algebra, values []int64, term []int64, list []impl.Equation, number int64) []any {
	return []any{
		impl.AlgebraFault(s, a), impl.AlgebraOf(s, number, 9), impl.AlgebraOf(s, 2, number), impl.AlgebraOf(s, 3, 65520), impl.EvalTerm(s, a, values, term),
		impl.EvalTerm(s, a, []int64{0, 0, 0, 0, 0, 0}, term), impl.Holds(s, a, equation(term, values)), impl.Holds(s, a, equation(term, term)), impl.AllHold(s, a, list),
	}
}

// algebrasToAsk are some without a fault and some with each one.
func algebrasToAsk() []impl.Algebra {
	return append(someAlgebras(), impl.Algebra{}, algebra(2), algebra(1, []int64{0}), algebra(2, []int64{1}, []int64{0}), algebra(3, []int64{2}, []int64{0}, []int64{1}),
		algebra(4, groupOfThree().Tables...), withTable(groupOfTwo(), 2, 0), withTable(groupOfTwo(), 3, 2), withTable(groupOfThree(), 0, -1), algebra(2, nil, nil, nil, nil), algebra(2, append(groupOfTwo().Tables, nil)...))
}

func valuesToAsk() [][]int64 {
	return slices.Concat(someValues, [][]int64{nil, {0, 0, 0, 0, 0}, {0, 0, 0, 0, 0, 0, 0}, {0, 0, 0, -1, 0, 0}, {0, 0, 0, 0, 0, 3}})
}

// guardedAlgebra is an algebra all of whose tables lie in greater lists, as they do together.
type guardedAlgebra struct {
	tables []guarded[int64]
	whole  [][]int64
	a      impl.Algebra
}

func guardAlgebra(a impl.Algebra) guardedAlgebra {
	g := guardedAlgebra{}
	for _, table := range a.Tables {
		inside := guardNumbers(table)
		g.tables, g.whole = append(g.tables, inside), append(g.whole, inside.list)
	}
	g.whole = append(g.whole, []int64{guardNumber})
	g.a = algebra(a.Size, g.whole[:len(a.Tables)]...)
	return g
}

func (g guardedAlgebra) mustBeUnchanged(t *testing.T, who string) {
	t.Helper()
	for place, inside := range g.tables {
		inside.mustBeUnchanged(t, who)
		mustBe(t, who+": a table of its argument", g.whole[place], inside.list)
	}
	mustBe(t, who+": what is behind the tables of its argument", g.whole[len(g.tables)], []int64{guardNumber})
}

func TestP1AlgebraAnswersHangOnTheArgumentsAlone(t *testing.T) {
	all, numbers := rewritingRules(), slices.Concat([]int64{3, 4, 65520, 65521}, edgeFuels)
	for i, s := range fewSignatures() {
		for j, a := range algebrasToAsk() {
			for k, term := range someTerms() {
				values, rules, number := valuesToAsk()[(i+3*j+5*k)%len(valuesToAsk())], all[(i+j+7*k)%len(all)], numbers[(i+5*j+k)%len(numbers)]
				first := algebraAnswers(s, a, values, term, rules, number)
				algebraAnswers(exampleSignature(), differences(), []int64{0, 1, 2, 0, 1, 2}, read("m(i(A),B)"), groupLaws(), 2)
				mustBe(t, "the same call again", algebraAnswers(s, a, values, term, rules, number), first)
				again := algebraAnswers(signature(guardSymbols(s.Symbols).list...), guardAlgebra(a).a, guardNumbers(values).list, guardNumbers(term).list, guardRules(rules).list, number)
				mustBe(t, "the same call with other memory", again, first)
			}
		}
	}
}

func TestP1EverySizeAndSeedAndValueIsAnswered(t *testing.T) {
	for _, s := range fewSignatures() {
		for _, size := range edgeNumbers {
			for _, number := range edgeNumbers {
				a := algebra(size, slices.Repeat([][]int64{{number}}, len(s.Symbols))...)
				values := slices.Repeat([]int64{number}, 6)
				first := algebraAnswers(s, a, values, []int64{0}, nil, number)
				mustBe(t, "the same call again", algebraAnswers(s, a, values, []int64{0}, nil, number), first)
				mustBe(t, "AlgebraFault", impl.AlgebraFault(s, a), wantAlgebraFault(s, a))
				checkValue(t, s, a, values, []int64{-6})
			}
		}
	}
}

func TestP1NilAndEmptyAlgebrasAreTheSame(t *testing.T) {
	none, noTables, emptyTables := []int64{}, algebra(2), impl.Algebra{Size: 2, Tables: [][]int64{}}
	for _, s := range fewSignatures() {
		for _, number := range edgeFuels {
			mustBe(t, "empty lists", algebraAnswers(s, emptyTables, none, none, []impl.Equation{}, number), algebraAnswers(s, noTables, nil, nil, nil, number))
			mustBe(t, "empty tables", algebraAnswers(s, algebra(2, none, none), none, []int64{0}, nil, number), algebraAnswers(s, algebra(2, nil, nil), nil, []int64{0}, nil, number))
			mustBe(t, "empty sides", algebraAnswers(s, onePoint(), none, none, []impl.Equation{equation(none, none)}, number), algebraAnswers(s, onePoint(), nil, nil, []impl.Equation{{}}, number))
		}
		for _, a := range algebrasToAsk() {
			for _, term := range someTerms() {
				mustBe(t, "no values and a term", algebraAnswers(s, a, none, term, []impl.Equation{}, 1), algebraAnswers(s, a, nil, term, nil, 1))
			}
		}
	}
	mustBe(t, "an empty signature", algebraAnswers(signature([]impl.Symbol{}...), emptyTables, nil, []int64{0}, nil, 1), algebraAnswers(impl.Signature{}, noTables, nil, []int64{0}, nil, 1))
}

func TestP1AlgebraArgumentsAreNotChanged(t *testing.T) {
	terms := slices.Concat(someTerms(), [][]int64{read("m(i(A),m(B,i(F)))"), read("i(m(i(a),m(A,A)))"), fullComb()})
	for i, a := range algebrasToAsk() {
		for j, rules := range rewritingRules() {
			symbols, given, whole := guardSymbols(exampleSignature().Symbols), guardRules(rules), guardAlgebra(a)
			term, values := guardNumbers(terms[(i+j)%len(terms)]), guardNumbers(valuesToAsk()[(i+3*j)%len(valuesToAsk())])
			for _, number := range []int64{1, 2, 3, 65521} {
				algebraAnswers(signature(symbols.list...), whole.a, values.list, term.list, given.list, number)
			}
			mustBe(t, "the size", whole.a.Size, a.Size)
			symbols.mustBeUnchanged(t, "a function of algebras")
			given.mustBeUnchanged(t, "a function of algebras")
			whole.mustBeUnchanged(t, "a function of algebras")
			term.mustBeUnchanged(t, "a function of algebras")
			values.mustBeUnchanged(t, "a function of algebras")
		}
	}
}

func TestP1AlgebrasAreNewMemory(t *testing.T) {
	for _, s := range goodSignatures() {
		for _, size := range []int64{1, 2, 3} {
			symbols, want := guardSymbols(s.Symbols), wantAlgebra(s, size, 17)
			ask := func() impl.AlgebraResult { return impl.AlgebraOf(signature(symbols.list...), size, 17) }
			kept := ask()
			for place := range want.Algebra.Tables {
				spoilt := ask()
				overwriteNumbers(spoilt.Algebra.Tables[place])
				spoilt.Algebra.Tables[place] = want.Algebra.Tables[place]
				mustBe(t, "AlgebraOf, beside a table that was overwritten", spoilt, want)
			}
			spoilt := ask()
			for _, table := range spoilt.Algebra.Tables {
				overwriteNumbers(table)
			}
			clear(spoilt.Algebra.Tables[:cap(spoilt.Algebra.Tables)])
			mustBe(t, "AlgebraOf ahead of one that was overwritten", kept, want)
			mustBe(t, "AlgebraOf behind one that was overwritten", ask(), want)
			symbols.mustBeUnchanged(t, "who overwrote the answer of AlgebraOf")
			overwriteSymbols(symbols.whole)
			mustBe(t, "AlgebraOf symbols that were overwritten", kept, want)
		}
	}
}

func TestP1AlgebrasOfListsThatShareMemory(t *testing.T) {
	s := exampleSignature()
	shared := guardNumbers([]int64{0, 1, 0, 0, 1, 1, 0, 1, 0})
	two := algebra(2, shared.list[:1], shared.list[:2], shared.list[:4], shared.list[1:2])
	three := algebra(3, shared.list[:1], shared.list[:3], shared.list, shared.list[8:])
	for _, a := range []impl.Algebra{two, three, algebra(3, shared.list[4:5], shared.list[4:7], shared.list, shared.list[4:5])} {
		mustBe(t, "AlgebraFault of tables that share memory", impl.AlgebraFault(s, a), int64(impl.OK))
		for end := range shared.list {
			term := shared.list[end:]
			checkValue(t, s, a, shared.list[:6], term)
			checkValue(t, s, a, shared.list[:end], term)
			checkValue(t, s, a, shared.list[3:], shared.list[:end])
			checkHolds(t, s, a, equation(term, shared.list[:end]), equation(term, term), equation(shared.list[:1], shared.list[1:2]))
		}
		for _, term := range ruleTerms(3, -1, -6) {
			checkValue(t, s, a, shared.list[:6], term)
			checkHolds(t, s, a, equation(term, term), equation(term, shared.list[:1]))
		}
	}
	symbols := signature(impl.Symbol{Name: "a"}, impl.Symbol{Name: "b"})
	twice := algebra(2, shared.list[:1], shared.list[:1])
	mustBe(t, "Holds of two symbols with one table", impl.Holds(symbols, twice, equation([]int64{0}, []int64{1})), impl.IntResult{Value: 1})
	shared.mustBeUnchanged(t, "a function of algebras whose tables share memory")
}

func TestAlgebrasAreNotLedBehindTheEndBySpareRoom(t *testing.T) {
	s, values, term := exampleSignature(), []int64{1, 0, 1, 0, 1, 0, 1, 0}, read("m(i(A),m(B,e))")
	for _, whole := range []impl.Algebra{groupOfTwo(), groupOfThree()} {
		for end := range whole.Tables {
			a := algebra(whole.Size, whole.Tables[:end]...)
			mustBe(t, "AlgebraFault of tables that end too early", impl.AlgebraFault(s, a), int64(impl.ErrMany))
			checkValue(t, s, a, values[:6], term)
		}
		for symbol, table := range whole.Tables {
			for end := range table {
				a := withTable(whole, symbol, table[:end]...)
				mustBe(t, "AlgebraFault of a table that ends too early", impl.AlgebraFault(s, a), int64(impl.ErrMany))
				checkHolds(t, s, a, law("A=A"))
			}
		}
		for end := range values {
			checkValue(t, s, whole, values[:end], term)
		}
		for end := range term {
			checkValue(t, s, whole, values[:6], term[:end])
			checkHolds(t, s, whole, equation(term, term[:end]), equation(term[:end], term))
		}
	}
}

func TestP1AlgebrasOfGreatTermsEnd(t *testing.T) {
	s, three := exampleSignature(), groupOfThree()
	great := varied(-1, -2, -3, -4, -5, -6, -1, -2, -3, -4, -5, -6)
	turned := varied(-6, -5, -4, -3, -2, -1, -6, -5, -4, -3, -2, -1)
	deep := append(slices.Repeat([]int64{1}, 22), -6)
	mustEndSoon(t, "asking what holds of great terms", func() {
		for range 40 {
			mustBe(t, "AllHold of great terms", impl.AllHold(s, three, slices.Repeat([]impl.Equation{equation(great, turned)}, 12)), impl.IntResult{Value: 1})
			mustBe(t, "AllHold of deep terms", impl.AllHold(s, three, slices.Repeat([]impl.Equation{equation(deep, read("F"))}, 12)), impl.IntResult{Value: 1})
			impl.AllHold(s, differences(), slices.Repeat([]impl.Equation{equation(great, turned)}, 12))
		}
	})
}

func TestP1NothingIsKeptOfAnAlgebra(t *testing.T) {
	s, a, values, term, list := exampleSignature(), groupOfTwo(), []int64{1, 0, 0, 0, 0, 1}, read("m(A,F)"), laws("m(A,B)=m(B,A)")
	algebraAnswers(s, a, values, term, list, 2)
	mustBe(t, "EvalTerm", impl.EvalTerm(s, a, values, term), impl.IntResult{Value: 0})
	values[5] = 0
	mustBe(t, "EvalTerm with the new values", impl.EvalTerm(s, a, values, term), impl.IntResult{Value: 1})
	term[1] = 0
	mustBe(t, "EvalTerm of the new term", impl.EvalTerm(s, a, values, term), impl.IntResult{Value: 0})
	copy(a.Tables[2], []int64{1, 1, 0, 0})
	mustBe(t, "EvalTerm by the new table", impl.EvalTerm(s, a, values, term), impl.IntResult{Value: 1})
	mustBe(t, "AllHold by the new table", impl.AllHold(s, a, list), impl.IntResult{})
	copy(list[0].Right, read("m(A,A)"))
	mustBe(t, "Holds of the new equation", impl.Holds(s, a, list[0]), impl.IntResult{Value: 1})
	mustBe(t, "AllHold of the new equation", impl.AllHold(s, a, list), impl.IntResult{Value: 1})
	a.Tables[3] = []int64{2}
	mustBe(t, "AlgebraFault of the new table", impl.AlgebraFault(s, a), int64(impl.ErrRange))
	a.Size = 3
	mustBe(t, "AlgebraFault of the new size", impl.AlgebraFault(s, a), int64(impl.ErrMany))
	s.Symbols[2] = impl.Symbol{Name: "m", Arity: 1}
	mustBe(t, "AlgebraOf the new symbols", impl.AlgebraOf(s, 2, 0), impl.AlgebraResult{Algebra: algebra(2, []int64{1}, []int64{0, 1}, []int64{1, 1}, []int64{0})})
}
