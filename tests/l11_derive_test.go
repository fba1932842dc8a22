package tests

import (
	"fmt"
	"math"
	"slices"
	"strings"
	"testing"

	"loop.example/g00653/impl"
)

// step is an entry of these numbers: kind, a, b, place and side.
func step(text string, kind int64, a int64, b int64, place int64, side int64) impl.Entry {
	e := law(text)
	return impl.Entry{Kind: kind, A: a, B: b, Place: place, Side: side, Left: e.Left, Right: e.Right}
}

// claims are entries that only claim their equations, with numbers that are none's.
func claims(equations ...impl.Equation) []impl.Entry {
	list := []impl.Entry{}
	for number, e := range equations {
		list = append(list, impl.Entry{Kind: int64(number) - 1, A: 99, B: -7, Place: 24, Side: 9, Left: e.Left, Right: e.Right})
	}
	return list
}

func bothSides(e impl.Entry) impl.Equation {
	return equation(e.Left, e.Right)
}

func wantEntriesFault(s impl.Signature, entries []impl.Entry) int64 {
	if len(entries) > 500 {
		return impl.ErrMany
	}
	for _, e := range entries {
		if code := wantEquationFault(s, bothSides(e)); code != impl.OK {
			return code
		}
	}
	return impl.OK
}

// namesRightly asks, kind by kind, whether what it does not name is 0.
func namesRightly(e impl.Entry) bool {
	switch e.Kind {
	case 1, 2, 3:
		return e.B == 0 && e.Place == 0 && e.Side == 0
	case 4:
		return true
	case 5:
		return e.Side == 0
	}
	return false
}

// wantTold tells the equation that the numbers of e stand for, of equations and entries without a fault.
func wantTold(s impl.Signature, equations []impl.Equation, entries []impl.Entry, e impl.Entry) impl.EquationResult {
	if !namesRightly(e) {
		return impl.EquationResult{Code: impl.ErrForm}
	}
	ahead, givens, known := int64(len(entries)), int64(len(equations)), false
	switch e.Kind {
	case 1:
		known = 0 <= e.A && e.A < givens
	case 2, 3:
		known = 0 <= e.A && e.A < ahead
	case 4:
		known = 0 <= e.A && e.A < ahead && 0 <= e.B && e.B < ahead && (e.Side == 0 || e.Side == 1)
	case 5:
		known = 0 <= e.A && e.A < ahead && 0 <= e.B && e.B < ahead
	}
	if !known {
		return impl.EquationResult{Code: impl.ErrRange}
	}
	switch e.Kind {
	case 1:
		return impl.EquationResult{Equation: equations[e.A]}
	case 2:
		return impl.EquationResult{Equation: equation(entries[e.A].Right, entries[e.A].Left)}
	case 3:
		return wantPlain(s, bothSides(entries[e.A]))
	case 4:
		return wantSideRewritten(s, bothSides(entries[e.A]), bothSides(entries[e.B]), e.Place, e.Side)
	}
	return wantPeak(s, bothSides(entries[e.A]), bothSides(entries[e.B]), e.Place)
}

func wantSideRewritten(s impl.Signature, e impl.Equation, rule impl.Equation, place int64, side int64) impl.EquationResult {
	terms := [2][]int64{e.Left, e.Right}
	next := wantRewritten(s, []impl.Equation{rule}, 0, place, terms[side])
	if next.Code != impl.OK {
		return impl.EquationResult{Code: next.Code}
	}
	terms[side] = next.Term
	return impl.EquationResult{Equation: equation(terms[0], terms[1])}
}

func wantEntry(s impl.Signature, equations []impl.Equation, entries []impl.Entry, numbers impl.Entry) impl.EntryResult {
	if code := wantEquationsFault(s, equations); code != impl.OK {
		return impl.EntryResult{Code: code}
	}
	if code := wantEntriesFault(s, entries); code != impl.OK {
		return impl.EntryResult{Code: code}
	}
	told := wantTold(s, equations, entries, numbers)
	if told.Code != impl.OK {
		return impl.EntryResult{Code: told.Code}
	}
	numbers.Left, numbers.Right = told.Equation.Left, told.Equation.Right
	return impl.EntryResult{Entry: numbers}
}

func wantChecked(s impl.Signature, equations []impl.Equation, entries []impl.Entry) int64 {
	if code := wantEquationsFault(s, equations); code != impl.OK {
		return code
	}
	if len(entries) > 500 {
		return impl.ErrMany
	}
	for number, e := range entries {
		told := wantTold(s, equations, entries[:number], e)
		if told.Code != impl.OK {
			return told.Code
		}
		if !slices.Equal(told.Equation.Left, e.Left) || !slices.Equal(told.Equation.Right, e.Right) {
			return impl.ErrState
		}
	}
	return impl.OK
}

// wantUses goes back from the entry to those that it comes from, each one once.
func wantUses(s impl.Signature, equations []impl.Equation, entries []impl.Entry, entry int64) impl.IntsResult {
	if code := wantChecked(s, equations, entries); code != impl.OK {
		return impl.IntsResult{Code: code}
	}
	if entry < 0 || entry >= int64(len(entries)) {
		return impl.IntsResult{Code: impl.ErrRange}
	}
	used, waiting, seen := []int64{}, []int64{entry}, map[int64]bool{}
	for len(waiting) > 0 {
		e := entries[waiting[0]]
		seen[waiting[0]] = true
		waiting = waiting[1:]
		sources := []int64{e.A}
		switch e.Kind {
		case 1:
			used, sources = append(used, e.A), nil
		case 4, 5:
			sources = append(sources, e.B)
		}
		for _, source := range sources {
			if !seen[source] {
				waiting = append(waiting, source)
			}
		}
	}
	slices.Sort(used)
	return impl.IntsResult{List: slices.Compact(used)}
}

func wantEntriesHold(s impl.Signature, a impl.Algebra, entries []impl.Entry) impl.IntResult {
	if code := wantAlgebraFault(s, a); code != impl.OK {
		return impl.IntResult{Code: code}
	}
	if code := wantEntriesFault(s, entries); code != impl.OK {
		return impl.IntResult{Code: code}
	}
	for _, e := range entries {
		if !wantSameValues(s, a, bothSides(e)) {
			return impl.IntResult{}
		}
	}
	return impl.IntResult{Value: 1}
}

func derive(s impl.Signature, equations []impl.Equation, entries []impl.Entry, e impl.Entry) impl.EntryResult {
	return impl.DeriveEntry(s, equations, entries, e.Kind, e.A, e.B, e.Place, e.Side)
}

// briefEntries tells the first entries, and these by their first nodes alone.
func briefEntries(entries ...impl.Entry) string {
	text := fmt.Sprint(len(entries), " entries")
	for _, e := range entries[:min(len(entries), 13)] {
		text += fmt.Sprint("; ", e.Kind, ": ", e.A, " ", e.B, " ", e.Place, " ", e.Side, ", ", brief(e.Left), "=", brief(e.Right))
	}
	return text
}

func checkDerived(t *testing.T, s impl.Signature, equations []impl.Equation, entries []impl.Entry, numbers impl.Entry) {
	t.Helper()
	numbers.Left, numbers.Right = nil, nil
	got, want := derive(s, equations, entries, numbers), wantEntry(s, equations, entries, numbers)
	if got.Code != want.Code || !sameFields(got.Entry, want.Entry) {
		mustBe(t, fmt.Sprintf("DeriveEntry %s of %s behind %s in %.60v", briefEntries(numbers), briefRules(equations...), briefEntries(entries...), s), got, want)
	}
}

// checkEntries asks all that is asked of entries together, and of the numbers in and around them.
func checkEntries(t *testing.T, s impl.Signature, equations []impl.Equation, entries []impl.Entry) {
	t.Helper()
	who := fmt.Sprintf("of %s from %s in %.60v", briefEntries(entries...), briefRules(equations...), s)
	mustBe(t, "CheckEntries "+who, impl.CheckEntries(s, equations, entries), wantChecked(s, equations, entries))
	asked := []int64{math.MinInt64, -1, int64(len(entries)), int64(len(entries)) + 1, 1 << 32, math.MaxInt64}
	for number := range int64(min(len(entries), 40)) {
		asked = append(asked, number)
	}
	for _, number := range asked {
		mustBe(t, fmt.Sprint("UsesOf ", number, " ", who), impl.UsesOf(s, equations, entries, number), wantUses(s, equations, entries, number))
	}
	mustBe(t, "SameEntries "+who, impl.SameEntries(entries, cloneEntries(entries)), true)
}

func checkEntriesHold(t *testing.T, s impl.Signature, a impl.Algebra, entries []impl.Entry) {
	t.Helper()
	who := fmt.Sprintf("EntriesHold of %s by %s in %.60v", briefEntries(entries...), briefAlgebra(a), s)
	mustBe(t, who, impl.EntriesHold(s, a, entries), wantEntriesHold(s, a, entries))
}

func cloneEntries(entries []impl.Entry) []impl.Entry {
	list := []impl.Entry{}
	for _, e := range entries {
		e.Left, e.Right = slices.Clone(e.Left), slices.Clone(e.Right)
		list = append(list, e)
	}
	return list
}

// threeLaws are the rules of groups of which all others come.
func threeLaws() []impl.Equation {
	return laws("m(e,A)=A", "m(i(A),A)=e", "m(m(A,B),C)=m(A,m(B,C))")
}

// groupEntries come from the three laws: there are all kinds of entries among them.
func groupEntries() []impl.Entry {
	return []impl.Entry{
		step("m(e,A)=A", 1, 0, 0, 0, 0),
		step("m(i(A),A)=e", 1, 1, 0, 0, 0),
		step("m(m(A,B),C)=m(A,m(B,C))", 1, 2, 0, 0, 0),
		step("m(i(A),m(A,B))=m(e,B)", 5, 2, 1, 1, 0),
		step("m(i(A),m(A,B))=B", 4, 3, 0, 0, 1),
		step("B=m(i(A),m(A,B))", 2, 4, 0, 0, 0),
		step("A=m(i(B),m(B,A))", 3, 5, 0, 0, 0),
		step("A=m(i(e),A)", 5, 4, 0, 3, 0),
		step("B=m(e,B)", 4, 3, 4, 0, 0),
		step("m(e,A)=A", 1, 0, 0, 0, 0),
		step("m(i(e),A)=A", 2, 7, 0, 0, 0),
		step("e=e", 4, 1, 1, 0, 0),
		step("A=m(i(i(A)),e)", 5, 4, 1, 3, 0),
	}
}

// groupUses has, entry by entry, the laws that it comes from.
var groupUses = [][]int64{{0}, {1}, {2}, {1, 2}, {0, 1, 2}, {0, 1, 2}, {0, 1, 2}, {0, 1, 2}, {0, 1, 2}, {0}, {0, 1, 2}, {1}, {0, 1, 2}}

func TestBoundsOfDerivationsAreThoseOfTheDocument(t *testing.T) {
	mustBe(t, "DeriveGiven", impl.DeriveGiven, 1)
	mustBe(t, "DeriveTurned", impl.DeriveTurned, 2)
	mustBe(t, "DerivePlain", impl.DerivePlain, 3)
	mustBe(t, "DeriveRewritten", impl.DeriveRewritten, 4)
	mustBe(t, "DerivePeak", impl.DerivePeak, 5)
	mustBe(t, "MaxEntries", impl.MaxEntries, 500)
}

func TestDeriveEntryKnownValues(t *testing.T) {
	s, given := exampleSignature(), laws("m(e,A)=A", "i(F)=m(C,i(C))", "e=a", "A=A")
	together := "m(m(A,B),C)=m(A,m(B,C))"
	for _, c := range []struct {
		what  string
		ahead []string
		want  impl.Entry
	}{
		{"the first given one", nil, step("m(e,A)=A", 1, 0, 0, 0, 0)},
		{"a given one that is neither a rule nor plain", nil, step("i(F)=m(C,i(C))", 1, 1, 0, 0, 0)},
		{"a given one in the middle", nil, step("e=a", 1, 2, 0, 0, 0)},
		{"the last given one", nil, step("A=A", 1, 3, 0, 0, 0)},
		{"a given one behind others", []string{"e=a", "a=e", "e=e"}, step("m(e,A)=A", 1, 0, 0, 0, 0)},
		{"one turned", []string{"m(e,A)=A"}, step("A=m(e,A)", 2, 0, 0, 0, 0)},
		{"one that is not plain turned", []string{"e=a", "m(C,i(A))=m(A,C)", "e=e"}, step("m(A,C)=m(C,i(A))", 2, 1, 0, 0, 0)},
		{"the last one turned", []string{"e=a", "m(A,A)=i(B)"}, step("i(B)=m(A,A)", 2, 1, 0, 0, 0)},
		{"one that is plain made so", []string{"m(e,A)=A"}, step("m(e,A)=A", 3, 0, 0, 0, 0)},
		{"one that is not plain made so", []string{"e=a", "m(C,i(A))=m(A,C)", "e=e"}, step("m(A,i(B))=m(B,A)", 3, 1, 0, 0, 0)},
		{"one with other variables on both sides made plain", []string{"F=i(D)"}, step("A=i(B)", 3, 0, 0, 0, 0)},
		{"one without variables made plain", []string{"e=a"}, step("e=a", 3, 0, 0, 0, 0)},
		{"one with all variables of rules made plain", []string{"m(F,m(E,m(D,m(C,m(B,A)))))=e"}, step("m(A,m(B,m(C,m(D,m(E,F)))))=e", 3, 0, 0, 0, 0)},
		{"the Left rewritten at its root", []string{"m(e,i(B))=m(e,B)", "m(e,A)=A"}, step("i(B)=m(e,B)", 4, 0, 1, 0, 0)},
		{"the Right rewritten at its root", []string{"m(e,i(B))=m(e,B)", "m(e,A)=A"}, step("m(e,i(B))=B", 4, 0, 1, 0, 1)},
		{"the Left rewritten inside", []string{"m(e,A)=A", "i(m(e,m(e,a)))=m(e,e)"}, step("i(m(e,a))=m(e,e)", 4, 1, 0, 1, 0)},
		{"the Left rewritten farther inside", []string{"m(e,A)=A", "i(m(e,m(a,m(e,a))))=e"}, step("i(m(e,m(a,a)))=e", 4, 1, 0, 5, 0)},
		{"the Left rewritten at its last place", []string{"a=e", "m(a,a)=m(a,a)"}, step("m(a,e)=m(a,a)", 4, 1, 0, 2, 0)},
		{"the Right rewritten at its last place", []string{"a=e", "m(a,a)=m(a,a)"}, step("m(a,a)=m(a,e)", 4, 1, 0, 2, 1)},
		{"the Right rewritten, what it becomes is not plain", []string{"m(A,B)=m(B,A)", "e=m(C,i(F))"}, step("e=m(i(F),C)", 4, 1, 0, 0, 1)},
		{"the Left rewritten, what it becomes is not plain", []string{"m(A,B)=i(B)", "m(A,C)=C"}, step("i(C)=C", 4, 1, 0, 0, 0)},
		{"by a rule that is not plain", []string{"i(C)=m(C,C)", "i(B)=i(i(A))"}, step("i(B)=i(m(A,A))", 4, 1, 0, 1, 1)},
		{"by a rule that does not fall", []string{"a=m(a,a)", "e=i(a)"}, step("e=i(m(a,a))", 4, 1, 0, 1, 1)},
		{"by itself", []string{"m(e,A)=A"}, step("A=A", 4, 0, 0, 0, 0)},
		{"by itself, the Right", []string{"a=i(a)"}, step("a=i(i(a))", 4, 0, 0, 1, 1)},
		{"a Left that is a variable has a Right that is rewritten", []string{"A=i(i(A))", "i(i(A))=A"}, step("A=A", 4, 0, 1, 0, 1)},
		{"a peak inside", []string{together, "m(i(A),A)=e"}, step("m(i(A),m(A,B))=m(e,B)", 5, 0, 1, 1, 0)},
		{"a peak inside of itself", []string{"e=e", "i(i(A))=A"}, step("i(A)=i(A)", 5, 1, 1, 1, 0)},
		{"a peak at the root of itself", []string{"i(i(A))=A"}, step("A=A", 5, 0, 0, 0, 0)},
		{"a peak at the root of both", []string{"m(e,A)=A", "m(A,e)=i(A)"}, step("e=i(e)", 5, 0, 1, 0, 0)},
		{"a peak at the root of both, the other way round", []string{"m(e,A)=A", "m(A,e)=i(A)"}, step("i(e)=e", 5, 1, 0, 0, 0)},
		{"a peak at a constant", []string{"e=a", "m(e,A)=A"}, step("A=m(a,A)", 5, 1, 0, 1, 0)},
		{"a peak at the last place", []string{"m(A,e)=A", "e=i(e)"}, step("A=m(A,i(e))", 5, 0, 1, 2, 0)},
		{"a peak of two that are not plain", []string{"m(F,i(C))=m(C,F)", "i(i(E))=E"}, step("m(i(A),B)=m(B,A)", 5, 0, 1, 2, 0)},
		{"a peak, the inner one twice", []string{together, "m(A,A)=e"}, step("m(A,m(A,B))=m(e,B)", 5, 0, 1, 1, 0)},
	} {
		entries := claims(laws(c.ahead...)...)
		mustBe(t, "DeriveEntry: "+c.what, derive(s, given, entries, c.want), impl.EntryResult{Entry: c.want})
		mustBe(t, "what is wanted: "+c.what, wantEntry(s, given, entries, c.want), impl.EntryResult{Entry: c.want})
		mustBe(t, "DeriveEntry, with others behind: "+c.what, derive(s, given, append(entries, claims(laws("i(a)=a", "A=B")...)...), c.want), impl.EntryResult{Entry: c.want})
	}
}

func TestDeriveEntryOfEachStepOfGroups(t *testing.T) {
	s, all := exampleSignature(), groupEntries()
	for number, e := range all {
		mustBe(t, fmt.Sprint("DeriveEntry of the numbers of entry ", number), derive(s, threeLaws(), all[:number], e), impl.EntryResult{Entry: e})
		mustBe(t, fmt.Sprint("DeriveEntry of the numbers of entry ", number, " behind all"), derive(s, threeLaws(), all, e), impl.EntryResult{Entry: e})
	}
}

func TestDeriveEntryAsksForWhatAKindDoesNotName(t *testing.T) {
	s, given := exampleSignature(), laws("i(i(A))=A", "m(e,A)=A")
	ahead := claims(laws("i(i(e))=e", "m(i(i(e)),a)=i(i(e))")...)
	asked := slices.Concat(edgeNumbers, []int64{-2, -1, 0, 1, 2, 3, 24, 25, 1 << 8, 1 << 32})
	for _, c := range []struct {
		kind  int64
		names [3]bool
	}{
		{impl.DeriveGiven, [3]bool{false, false, false}},
		{impl.DeriveTurned, [3]bool{false, false, false}},
		{impl.DerivePlain, [3]bool{false, false, false}},
		{impl.DeriveRewritten, [3]bool{true, true, true}},
		{impl.DerivePeak, [3]bool{true, true, false}},
	} {
		for place, what := range []string{"b", "place", "side"} {
			for _, number := range asked {
				numbers := [3]int64{}
				numbers[place] = number
				for _, a := range []int64{0, 1, -1, 2, math.MaxInt64} {
					told := impl.DeriveEntry(s, given, ahead, c.kind, a, numbers[0], numbers[1], numbers[2])
					who := fmt.Sprint("DeriveEntry of the kind ", c.kind, ", a ", a, ", ", what, " ", number)
					if number != 0 && !c.names[place] {
						mustBe(t, who, told, impl.EntryResult{Code: impl.ErrForm})
					}
					if number == 0 && a == 0 {
						mustBe(t, "the code of "+who, told.Code, int64(impl.OK))
					}
					if c.names[place] && told.Code == impl.ErrForm {
						t.Errorf("%s told ErrForm", who)
					}
					checkDerived(t, s, given, ahead, impl.Entry{Kind: c.kind, A: a, B: numbers[0], Place: numbers[1], Side: numbers[2]})
				}
			}
		}
	}
	for _, numbers := range [][3]int64{{1, -1, 0}, {-1, 1, 0}, {1, 0, -1}, {0, -1, 1}, {-1, 0, 1}, {1, 1, 1}, {-1, -1, -1}, {1 << 32, 1 << 32, 0}} {
		for _, kind := range []int64{impl.DeriveGiven, impl.DeriveTurned, impl.DerivePlain} {
			mustBe(t, fmt.Sprint("DeriveEntry of the kind ", kind, ", b, place and side ", numbers), impl.DeriveEntry(s, given, ahead, kind, 0, numbers[0], numbers[1], numbers[2]), impl.EntryResult{Code: impl.ErrForm})
		}
	}
}

func TestDeriveEntryOfKindsThatAreNone(t *testing.T) {
	s, given, ahead := exampleSignature(), laws("i(i(A))=A"), claims(laws("i(i(A))=A")...)
	for _, kind := range slices.Concat(edgeNumbers, []int64{-5, -2, -1, 0, 1, 2, 3, 4, 5, 6, 7, 1<<8 + 1, 1<<32 + 1, 1<<32 + 5}) {
		code := int64(impl.OK)
		if kind < 1 || kind > 5 {
			code = impl.ErrForm
		}
		mustBe(t, fmt.Sprint("the code of DeriveEntry of the kind ", kind), impl.DeriveEntry(s, given, ahead, kind, 0, 0, 0, 0).Code, code)
		checkDerived(t, s, given, ahead, impl.Entry{Kind: kind})
		for _, a := range []int64{-1, 1, math.MinInt64} {
			if code == impl.OK {
				code = impl.ErrRange
			}
			mustBe(t, fmt.Sprint("DeriveEntry of the kind ", kind, ", a ", a), impl.DeriveEntry(s, given, ahead, kind, a, 0, 0, 0), impl.EntryResult{Code: code})
		}
		checked := append(claims(), impl.Entry{Kind: kind, Left: read("i(i(A))"), Right: read("A")})
		checkEntries(t, s, given, checked)
	}
}

func TestDeriveEntryAsksForNumbersOfWhatIsThere(t *testing.T) {
	s, all := exampleSignature(), laws("i(i(A))=A", "i(i(e))=e", "i(i(m(A,B)))=m(A,B)", "i(i(i(A)))=i(A)", "i(i(a))=a")
	numbers := slices.Concat(edgeNumbers, []int64{-2, -1, 0, 1, 2, 3, 4, 5, 6, 1 << 32, 1<<32 + 1})
	for _, c := range []struct{ givens, ahead int64 }{{0, 0}, {0, 1}, {1, 0}, {2, 5}, {5, 2}, {3, 3}} {
		given, ahead := all[:c.givens], claims(all[:c.ahead]...)
		for _, number := range numbers {
			for kind := int64(1); kind <= 5; kind++ {
				count, code := c.ahead, int64(impl.OK)
				if kind == impl.DeriveGiven {
					count = c.givens
				}
				if number < 0 || number >= count {
					code = impl.ErrRange
				}
				who := fmt.Sprint(number, ", with ", c.givens, " equations and ", c.ahead, " entries: the code of DeriveEntry of the kind ", kind, ", ")
				mustBe(t, "a "+who, impl.DeriveEntry(s, given, ahead, kind, number, 0, 0, 0).Code, code)
				if kind < impl.DeriveRewritten || c.ahead == 0 {
					continue
				}
				told := impl.DeriveEntry(s, given, ahead, kind, 0, number, 0, 0)
				mustBe(t, "b "+who+"whether it is ErrRange", told.Code == impl.ErrRange, code == impl.ErrRange)
				checkDerived(t, s, given, ahead, impl.Entry{Kind: kind, B: number})
				checkDerived(t, s, given, ahead, impl.Entry{Kind: kind, A: number, B: number})
				checkDerived(t, s, given, ahead, impl.Entry{Kind: kind, A: c.ahead - 1, B: number, Place: 1})
			}
		}
	}
}

func TestDeriveEntryAsksForTheSide(t *testing.T) {
	s, ahead := exampleSignature(), claims(laws("m(e,a)=i(m(e,a))", "m(e,A)=A")...)
	for _, side := range slices.Concat(edgeNumbers, []int64{-2, -1, 0, 1, 2, 3, 1 << 32, 1<<32 + 1}) {
		want := impl.EntryResult{Code: impl.ErrRange}
		switch side {
		case 0:
			want = impl.EntryResult{Entry: step("a=i(m(e,a))", 4, 0, 1, 0, 0)}
		case 1:
			want = impl.EntryResult{Code: impl.ErrNone}
		}
		mustBe(t, fmt.Sprint("DeriveEntry, place 0, side ", side), impl.DeriveEntry(s, nil, ahead, impl.DeriveRewritten, 0, 1, 0, side), want)
		switch side {
		case 0:
			want = impl.EntryResult{Code: impl.ErrNone}
		case 1:
			want = impl.EntryResult{Entry: step("m(e,a)=i(a)", 4, 0, 1, 1, 1)}
		}
		mustBe(t, fmt.Sprint("DeriveEntry, place 1, side ", side), impl.DeriveEntry(s, nil, ahead, impl.DeriveRewritten, 0, 1, 1, side), want)
		checkDerived(t, s, nil, ahead, impl.Entry{Kind: impl.DeriveRewritten, A: 0, B: 1, Place: 3, Side: side})
	}
}

func TestDeriveEntryTellsTheCodesOfRewriteAt(t *testing.T) {
	s, grown := exampleSignature(), equation(chain(24), append(slices.Repeat([]int64{1}, 23), -1))
	for _, c := range []struct {
		what    string
		e, rule impl.Equation
		place   int64
		side    int64
		code    int64
	}{
		{"the rule's Left is a variable", law("i(a)=i(a)"), law("A=e"), 0, 0, impl.ErrForm},
		{"the rule's Right has a variable more", law("i(a)=i(a)"), law("i(A)=B"), 0, 0, impl.ErrForm},
		{"the rule's Left is a variable, ahead of the place", law("i(a)=i(a)"), law("A=e"), 2, 0, impl.ErrForm},
		{"the rule's Right has a variable more, ahead of the place", law("i(a)=i(a)"), law("i(A)=B"), -1, 0, impl.ErrForm},
		{"the rule's Right has a variable more, ahead of what does not fit", law("i(a)=i(a)"), law("m(A,A)=B"), 0, 0, impl.ErrForm},
		{"what is rewritten need be no rule", law("A=i(B)"), law("i(A)=A"), 0, 1, impl.OK},
		{"what is rewritten need be no rule, where the rule does not fit", law("A=i(B)"), law("i(A)=A"), 0, 0, impl.ErrNone},
		{"the least number", law("i(a)=m(a,a)"), law("a=e"), math.MinInt64, 0, impl.ErrRange},
		{"place -1", law("i(a)=m(a,a)"), law("a=e"), -1, 0, impl.ErrRange},
		{"place 0", law("i(a)=m(a,a)"), law("a=e"), 0, 0, impl.ErrNone},
		{"the last place", law("i(a)=m(a,a)"), law("a=e"), 1, 0, impl.OK},
		{"one place more", law("i(a)=m(a,a)"), law("a=e"), 2, 0, impl.ErrRange},
		{"one place more, on the side that has it", law("i(a)=m(a,a)"), law("a=e"), 2, 1, impl.OK},
		{"the first place behind both sides", law("i(a)=m(a,a)"), law("a=e"), 3, 1, impl.ErrRange},
		{"a place of the rule alone", law("a=e"), law("i(i(A))=A"), 1, 0, impl.ErrRange},
		{"a place of the other side alone", law("a=i(a)"), law("a=e"), 1, 0, impl.ErrRange},
		{"a place behind the end", law("i(a)=m(a,a)"), law("a=e"), 24, 0, impl.ErrRange},
		{"the greatest number", law("i(a)=m(a,a)"), law("a=e"), math.MaxInt64, 1, impl.ErrRange},
		{"what is lost in 32 bits", law("i(a)=m(a,a)"), law("a=e"), 1<<32 + 1, 0, impl.ErrRange},
		{"it does not fit at a variable", law("i(A)=m(A,A)"), law("a=e"), 1, 0, impl.ErrNone},
		{"it does not fit at another constant", law("i(e)=m(a,a)"), law("a=e"), 1, 0, impl.ErrNone},
		{"it fits on the other side alone", law("i(e)=i(a)"), law("a=e"), 1, 0, impl.ErrNone},
		{"it fits the other way round alone", law("i(A)=e"), law("i(a)=e"), 0, 0, impl.ErrNone},
		{"MaxNodes", equation(chain(23), read("e")), law("a=i(e)"), 22, 0, impl.OK},
		{"one more than MaxNodes", equation(chain(24), read("e")), law("a=i(e)"), 23, 0, impl.ErrMany},
		{"one more than MaxNodes on the Right", equation(read("e"), chain(24)), law("a=i(e)"), 23, 1, impl.ErrMany},
		{"MaxNodes on the other side", equation(chain(24), read("a")), law("a=i(e)"), 0, 1, impl.OK},
		{"MaxNodes on both sides", grown, law("i(A)=A"), 0, 0, impl.OK},
		{"many more than MaxNodes", equation(chain(24), read("e")), equation(read("i(A)"), varied(slices.Repeat([]int64{-1}, 12)...)), 0, 0, impl.ErrMany},
	} {
		ahead := claims(law("e=e"), c.rule, law("A=B"), c.e)
		numbers := impl.Entry{Kind: impl.DeriveRewritten, A: 3, B: 1, Place: c.place, Side: c.side}
		mustBe(t, "the code of DeriveEntry: "+c.what, derive(s, nil, ahead, numbers).Code, c.code)
		mustBe(t, "the code that RewriteAt tells: "+c.what, impl.RewriteAt(s, []impl.Equation{c.rule}, 0, c.place, [][]int64{c.e.Left, c.e.Right}[c.side]).Code, c.code)
		checkDerived(t, s, nil, ahead, numbers)
		numbers.Side = 1 - c.side
		checkDerived(t, s, nil, ahead, numbers)
		numbers.A, numbers.B = 1, 3
		checkDerived(t, s, nil, ahead, numbers)
	}
}

func TestDeriveEntryTellsTheCodesOfPeakOf(t *testing.T) {
	s, many := exampleSignature(), "m(i(A),m(B,m(C,m(D,m(E,F)))))=m(F,m(E,m(D,m(C,m(B,A)))))"
	for _, c := range []struct {
		what         string
		outer, inner impl.Equation
		place        int64
		code         int64
	}{
		{"the outer one's Left is a variable", law("A=e"), law("i(i(A))=A"), 0, impl.ErrForm},
		{"the inner one's Left is a variable", law("i(i(A))=A"), law("A=e"), 0, impl.ErrForm},
		{"the outer one's Right has a variable more", law("i(i(A))=B"), law("i(i(A))=A"), 1, impl.ErrForm},
		{"the inner one's Right has a variable more", law("i(i(A))=A"), law("i(i(A))=B"), 1, impl.ErrForm},
		{"the inner one's Left is a variable, ahead of the place", law("i(i(A))=A"), law("A=e"), 3, impl.ErrForm},
		{"the outer one's Left is a variable, ahead of the place", law("A=e"), law("i(i(A))=A"), -1, impl.ErrForm},
		{"the least number", law("i(i(A))=A"), law("i(A)=A"), math.MinInt64, impl.ErrRange},
		{"place -1", law("i(i(A))=A"), law("i(A)=A"), -1, impl.ErrRange},
		{"place 0", law("i(i(A))=A"), law("i(A)=A"), 0, impl.OK},
		{"place 1", law("i(i(A))=A"), law("i(A)=A"), 1, impl.OK},
		{"the last place, a variable", law("i(i(A))=A"), law("i(A)=A"), 2, impl.ErrForm},
		{"one place more", law("i(i(A))=A"), law("i(A)=A"), 3, impl.ErrRange},
		{"a place of the inner one alone", law("a=e"), law("i(i(A))=A"), 1, impl.ErrRange},
		{"a place of the Right alone", law("a=i(e)"), law("e=i(a)"), 1, impl.ErrRange},
		{"a place behind the end", law("i(i(A))=A"), law("i(A)=A"), 24, impl.ErrRange},
		{"the greatest number", law("i(i(A))=A"), law("i(A)=A"), math.MaxInt64, impl.ErrRange},
		{"what is lost in 32 bits", law("i(i(A))=A"), law("i(A)=A"), 1<<32 + 1, impl.ErrRange},
		{"two first nodes", law("i(i(A))=A"), law("m(A,A)=A"), 1, impl.ErrNone},
		{"two constants", law("m(e,A)=A"), law("a=e"), 1, impl.ErrNone},
		{"a variable in what it would stand for", law("m(A,A)=A"), law("m(A,i(A))=e"), 0, impl.ErrNone},
		{"MaxNodes", equation(chain(23), read("e")), law("a=i(e)"), 22, impl.OK},
		{"one more than MaxNodes", equation(chain(24), read("e")), law("a=i(e)"), 23, impl.ErrMany},
		{"just MaxRuleVars variables", law(many), law("i(i(A))=A"), 1, impl.OK},
		{"one more than MaxRuleVars variables", law(many), law("i(m(A,B))=e"), 1, impl.ErrMany},
	} {
		ahead := claims(c.inner, law("A=B"), c.outer, law("e=e"))
		numbers := impl.Entry{Kind: impl.DerivePeak, A: 2, B: 0, Place: c.place}
		mustBe(t, "the code of DeriveEntry: "+c.what, derive(s, nil, ahead, numbers).Code, c.code)
		mustBe(t, "the code that PeakOf tells: "+c.what, impl.PeakOf(s, c.outer, c.inner, c.place).Code, c.code)
		checkDerived(t, s, nil, ahead, numbers)
		numbers.A, numbers.B = 0, 2
		checkDerived(t, s, nil, ahead, numbers)
	}
}

func TestDeriveEntryOfSidesWithFaults(t *testing.T) {
	s, good := exampleSignature(), law("i(i(A))=A")
	for _, c := range []struct {
		what string
		e    impl.Equation
		code int64
	}{
		{"no sides", impl.Equation{}, impl.ErrMany},
		{"no Left", equation(nil, read("e")), impl.ErrMany},
		{"no Right", equation(read("e"), nil), impl.ErrMany},
		{"a Left of one node more than MaxNodes", equation(chain(25), read("e")), impl.ErrMany},
		{"a Right of one node more than MaxNodes", equation(read("e"), chain(25)), impl.ErrMany},
		{"sides of MaxNodes", equation(chain(24), chain(24)), impl.OK},
		{"half a Left", equation([]int64{1}, read("e")), impl.ErrForm},
		{"half a Right", equation(read("e"), []int64{2, 0}), impl.ErrForm},
		{"a node of the Left", equation([]int64{4}, read("e")), impl.ErrRange},
		{"a node of the Right", equation(read("e"), []int64{4}), impl.ErrRange},
		{"the last variable of rules", law("F=F"), impl.OK},
		{"a variable more on the Left", law("G=e"), impl.ErrRange},
		{"a variable more on the Right", law("e=G"), impl.ErrRange},
		{"the last variable", law("L=L"), impl.ErrRange},
		{"half a Left ahead of no Right", equation([]int64{1}, nil), impl.ErrForm},
		{"half a Right ahead of a variable more on the Left", equation(read("G"), []int64{1}), impl.ErrForm},
	} {
		told := impl.EntryResult{Code: c.code}
		for _, list := range [][]impl.Equation{{c.e}, {good, c.e}, {good, c.e, {}}, {good, good, good, c.e}} {
			if c.code == impl.OK {
				list = slices.DeleteFunc(list, func(e impl.Equation) bool { return len(e.Left) == 0 })
				told = derive(s, list, claims(good), impl.Entry{Kind: 2})
			}
			mustBe(t, "DeriveEntry of given ones: "+c.what, derive(s, list, claims(good), impl.Entry{Kind: 2}), told)
			mustBe(t, "the code of DeriveEntry of given ones: "+c.what, derive(s, list, claims(good), impl.Entry{Kind: 2}).Code, c.code)
			mustBe(t, "the code of DeriveEntry of ones ahead: "+c.what, derive(s, []impl.Equation{good}, claims(list...), impl.Entry{Kind: 1}).Code, c.code)
			mustBe(t, "CheckEntries of given ones: "+c.what, impl.CheckEntries(s, list, nil), c.code)
			mustBe(t, "the code of UsesOf given ones: "+c.what, impl.UsesOf(s, append(slices.Clone(list), good), []impl.Entry{step("i(i(A))=A", 1, int64(len(list)), 0, 0, 0)}, 0).Code, c.code)
			mustBe(t, "the code of EntriesHold: "+c.what, impl.EntriesHold(s, groupOfTwo(), claims(list...)).Code, c.code)
			for kind := range int64(7) {
				checkDerived(t, s, list, claims(good), impl.Entry{Kind: kind})
				checkDerived(t, s, []impl.Equation{good}, claims(list...), impl.Entry{Kind: kind})
			}
			checkEntries(t, s, list, nil)
			checkEntriesHold(t, s, groupOfThree(), claims(list...))
		}
	}
}

func TestDeriveEntryAsksCodesInTheirOrder(t *testing.T) {
	s, taken, good := exampleSignature(), signature(impl.Symbol{Name: "a"}, impl.Symbol{Name: "a"}), law("i(i(A))=A")
	half, range9 := equation([]int64{1}, read("e")), equation(read("e"), []int64{9})
	manyEquations, manyEntries := slices.Repeat([]impl.Equation{good}, 13), slices.Repeat(claims(good), 501)
	no, bad := impl.Entry{Kind: 6, A: -1, B: -1, Place: -1, Side: -1}, impl.Entry{Kind: 1, A: 9}
	for _, c := range []struct {
		what    string
		s       impl.Signature
		given   []impl.Equation
		ahead   []impl.Entry
		numbers impl.Entry
		code    int64
	}{
		{"the signature ahead of too many equations", taken, manyEquations, manyEntries, no, impl.ErrTaken},
		{"the signature ahead of an equation", taken, []impl.Equation{half}, claims(range9), no, impl.ErrTaken},
		{"the signature, no equations and no entries", taken, nil, nil, no, impl.ErrTaken},
		{"no symbols at all", impl.Signature{}, nil, nil, impl.Entry{Kind: 1}, impl.ErrMany},
		{"a signature without a constant", noConstants(), nil, manyEntries, no, impl.ErrNone},
		{"too many equations ahead of a fault of one", s, append([]impl.Equation{half}, manyEquations...), claims(range9), no, impl.ErrMany},
		{"the first equation's fault ahead of the second one's", s, []impl.Equation{half, range9}, claims(law("G=G")), no, impl.ErrForm},
		{"the second equation's fault ahead of too many entries", s, []impl.Equation{good, half}, manyEntries, no, impl.ErrForm},
		{"the second equation's fault ahead of the first entry's", s, []impl.Equation{good, half}, claims(range9), no, impl.ErrForm},
		{"the last equation's fault ahead of an entry's", s, append(slices.Clone(manyEquations[:11]), range9), claims(half), no, impl.ErrRange},
		{"too many entries ahead of the first one's fault", s, []impl.Equation{good}, append(claims(half), manyEntries...), no, impl.ErrMany},
		{"too many entries ahead of the kind", s, []impl.Equation{good}, manyEntries, no, impl.ErrMany},
		{"the first entry's fault ahead of the second one's", s, []impl.Equation{good}, claims(half, range9), no, impl.ErrForm},
		{"the second entry's fault ahead of the first one's, turned", s, []impl.Equation{good}, claims(range9, half), no, impl.ErrRange},
		{"the last entry's fault ahead of the kind", s, []impl.Equation{good}, claims(good, good, range9), no, impl.ErrRange},
		{"the last entry's fault ahead of a", s, []impl.Equation{good}, claims(good, good, half), bad, impl.ErrForm},
		{"the last entry's fault, where it is not used", s, []impl.Equation{good}, claims(good, half), impl.Entry{Kind: 2}, impl.ErrForm},
		{"an entry's fault, where a given one is told", s, []impl.Equation{good}, claims(range9), impl.Entry{Kind: 1}, impl.ErrRange},
		{"the kind ahead of a", s, []impl.Equation{good}, nil, impl.Entry{Kind: 6, A: 9}, impl.ErrForm},
		{"kind 0 ahead of a", s, []impl.Equation{good}, nil, impl.Entry{A: 9}, impl.ErrForm},
		{"b ahead of a, of a given one", s, []impl.Equation{good}, nil, impl.Entry{Kind: 1, A: 9, B: 1}, impl.ErrForm},
		{"place ahead of a, of a turned one", s, []impl.Equation{good}, nil, impl.Entry{Kind: 2, Place: 1}, impl.ErrForm},
		{"side ahead of a, of a plain one", s, []impl.Equation{good}, nil, impl.Entry{Kind: 3, Side: -1}, impl.ErrForm},
		{"side ahead of a and b, of a peak", s, []impl.Equation{good}, nil, impl.Entry{Kind: 5, A: 9, B: 9, Side: 1}, impl.ErrForm},
		{"side ahead of the place, of a peak", s, []impl.Equation{good}, claims(good), impl.Entry{Kind: 5, Place: 9, Side: 2}, impl.ErrForm},
		{"a ahead of the rule's form", s, nil, claims(law("A=e")), impl.Entry{Kind: 4, A: 1}, impl.ErrRange},
		{"b ahead of the place", s, nil, claims(good), impl.Entry{Kind: 4, B: 1, Place: -1}, impl.ErrRange},
		{"side ahead of the rule's form", s, nil, claims(law("A=e")), impl.Entry{Kind: 4, Side: 2}, impl.ErrRange},
		{"side ahead of what does not fit", s, nil, claims(good), impl.Entry{Kind: 4, Side: -1}, impl.ErrRange},
		{"a ahead of the outer one's form", s, nil, claims(law("A=e")), impl.Entry{Kind: 5, A: 1}, impl.ErrRange},
		{"b ahead of the outer one's form", s, nil, claims(law("A=e")), impl.Entry{Kind: 5, B: 1}, impl.ErrRange},
		{"the rule's form ahead of the place", s, nil, claims(law("A=e")), impl.Entry{Kind: 4, Place: 9}, impl.ErrForm},
		{"the place ahead of what does not fit", s, nil, claims(good, law("e=a")), impl.Entry{Kind: 4, A: 0, B: 1, Place: 3}, impl.ErrRange},
		{"no entries, a peak", s, []impl.Equation{good}, nil, impl.Entry{Kind: 5}, impl.ErrRange},
		{"no entries, a turned one", s, []impl.Equation{good}, nil, impl.Entry{Kind: 2}, impl.ErrRange},
		{"no equations, a given one", s, nil, claims(good), impl.Entry{Kind: 1}, impl.ErrRange},
	} {
		mustBe(t, "DeriveEntry: "+c.what, derive(c.s, c.given, c.ahead, c.numbers), impl.EntryResult{Code: c.code})
		mustBe(t, "what is wanted: "+c.what, wantEntry(c.s, c.given, c.ahead, c.numbers), impl.EntryResult{Code: c.code})
	}
}

func TestDeriveEntryOfMaxEntriesAndNoMore(t *testing.T) {
	s, given, good := exampleSignature(), laws("i(i(A))=A"), claims(laws("i(i(A))=A")...)
	for _, c := range []struct {
		count int
		code  int64
	}{{0, impl.OK}, {1, impl.OK}, {499, impl.OK}, {500, impl.OK}, {501, impl.ErrMany}, {502, impl.ErrMany}, {70000, impl.ErrMany}} {
		ahead := slices.Repeat(good, c.count)
		for kind := range int64(7) {
			for _, a := range []int64{0, 1, int64(c.count) - 1, int64(c.count), int64(c.count) + 1} {
				checkDerived(t, s, given, ahead, impl.Entry{Kind: kind, A: a, B: a * (kind / 4)})
			}
		}
		mustBe(t, fmt.Sprint("the code of DeriveEntry behind ", c.count), impl.DeriveEntry(s, given, ahead, impl.DeriveGiven, 0, 0, 0, 0).Code, c.code)
		if c.count > 0 && c.code == impl.OK {
			last := int64(c.count) - 1
			mustBe(t, fmt.Sprint("DeriveEntry of the last one of ", c.count), impl.DeriveEntry(s, given, ahead, impl.DeriveTurned, last, 0, 0, 0), impl.EntryResult{Entry: step("A=i(i(A))", 2, last, 0, 0, 0)})
			ahead[c.count-1].Right = []int64{-7}
			mustBe(t, fmt.Sprint("DeriveEntry behind a fault of the last one of ", c.count), impl.DeriveEntry(s, given, ahead, impl.DeriveGiven, 0, 0, 0, 0), impl.EntryResult{Code: impl.ErrRange})
		}
	}
}

func TestDeriveEntryOfWhateverNumbers(t *testing.T) {
	s, told := exampleSignature(), map[int64]int{}
	given, ahead := laws("i(i(A))=A", "m(A,B)=i(e)"), claims(laws("i(i(A))=A", "m(e,i(A))=A", "B=i(A)", "e=a")...)
	for kind := int64(-1); kind <= 6; kind++ {
		for a := int64(-1); a <= 5; a++ {
			for b := int64(-1); b <= 5; b++ {
				for place := int64(-1); place <= 4; place++ {
					for side := int64(-1); side <= 2; side++ {
						numbers := impl.Entry{Kind: kind, A: a, B: b, Place: place, Side: side}
						checkDerived(t, s, given, ahead, numbers)
						if derive(s, given, ahead, numbers).Code == impl.OK {
							told[kind]++
						}
					}
				}
			}
		}
	}
	mustBe(t, "how many numbers were those of an entry, kind by kind", told, map[int64]int{1: 2, 2: 4, 3: 4, 4: 4, 5: 6})
}

func TestDeriveEntryOfWhateverLists(t *testing.T) {
	lists := rewritingRules()
	for i, s := range fewSignatures() {
		for j, given := range lists {
			for k, rules := range lists {
				number := edgeFuels[(i+j+k)%len(edgeFuels)]
				for kind := range int64(7) {
					checkDerived(t, s, given, claims(rules...), impl.Entry{Kind: kind, A: int64((j + k) % 3), B: int64(k%2) * (kind / 4)})
					checkDerived(t, s, given, claims(rules...), impl.Entry{Kind: kind, A: number, B: number, Place: number, Side: number})
				}
			}
		}
	}
	for _, s := range allSignatures() {
		for kind := range int64(7) {
			checkDerived(t, s, []impl.Equation{equation([]int64{0}, []int64{-1})}, claims(equation([]int64{0}, []int64{0})), impl.Entry{Kind: kind})
		}
	}
	for i, left := range longLists() {
		e, other := equation(left, []int64{0}), equation([]int64{3}, longLists()[(i+1)%len(longLists())])
		for kind := range int64(7) {
			checkDerived(t, exampleSignature(), []impl.Equation{e}, claims(other, law("e=a")), impl.Entry{Kind: kind, B: kind / 4})
			checkDerived(t, exampleSignature(), []impl.Equation{law("e=a")}, claims(e, law("i(A)=A")), impl.Entry{Kind: kind, B: kind / 4})
			checkDerived(t, exampleSignature(), nil, claims(e, other), impl.Entry{Kind: kind, B: kind / 4, Place: kind % 3})
		}
	}
}

func TestDeriveEntryOfAllSmallEquations(t *testing.T) {
	s, terms := exampleSignature(), ruleTerms(2, -1, -2)
	for i, left := range terms {
		for j, right := range terms {
			ahead := claims(equation(left, right), equation(terms[(3*i+j)%len(terms)], terms[(i+5*j)%len(terms)]), law("m(i(A),m(A,B))=B"))
			for kind := int64(2); kind <= 5; kind++ {
				for place := range int64(3) {
					for side := range int64(2) {
						for _, pair := range [][2]int64{{0, 0}, {0, 1}, {1, 0}, {2, 0}, {2, 1}} {
							checkDerived(t, s, nil, ahead, impl.Entry{Kind: kind, A: pair[0], B: pair[1], Place: place, Side: side})
						}
						checkDerived(t, s, nil, ahead, impl.Entry{Kind: kind})
					}
				}
			}
		}
	}
}

// crowdEquation makes an equation over the crowd's symbols, mostly one that is a rule.
func (r *numbersByRule) crowdEquation() impl.Equation {
	if r.below(5) == 0 {
		return equation(r.crowdTerm(1+r.below(5), 6), r.crowdTerm(1+r.below(5), 6))
	}
	return r.rule(2+r.below(4), 1+r.below(4))
}

// someNumbers are those of an entry that may be one behind so many others.
func (r *numbersByRule) someNumbers(givens int, ahead int) impl.Entry {
	e := impl.Entry{Kind: []int64{1, 2, 3, 4, 4, 4, 4, 4, 5, 5, 5, 5, 5}[r.below(13)]}
	if e.Kind == impl.DeriveGiven {
		e.A = int64(r.below(givens))
		return e
	}
	// The later ones more often: so much comes from what was derived itself.
	e.A = int64(max(r.below(ahead+1), r.below(ahead+1)))
	if e.Kind >= impl.DeriveRewritten {
		e.B, e.Place = int64(r.below(ahead+1)), int64(r.below(5))
	}
	if e.Kind == impl.DeriveRewritten {
		e.Side = int64(r.below(2))
	}
	return e
}

// derivation begins with all given ones, and derives behind them what can be derived by some numbers, as many as tries tell.
func (r *numbersByRule) derivation(s impl.Signature, given []impl.Equation, tries int) []impl.Entry {
	entries := []impl.Entry{}
	for number, e := range given {
		entries = append(entries, impl.Entry{Kind: 1, A: int64(number), Left: e.Left, Right: e.Right})
	}
	for range tries {
		told := derive(s, given, entries, r.someNumbers(len(given), len(entries)))
		if told.Code == impl.OK {
			entries = append(entries, told.Entry)
		}
	}
	return entries
}

func TestDeriveEntryOfManyEntries(t *testing.T) {
	s, numbers, told := crowd(), numbersByRule(251), map[[2]int64]int{}
	for range 3500 {
		given, ahead := []impl.Equation{}, []impl.Equation{}
		for range 1 + numbers.below(4) {
			given, ahead = append(given, numbers.crowdEquation()), append(ahead, numbers.crowdEquation())
		}
		for range 6 {
			e := numbers.someNumbers(len(given), len(ahead))
			checkDerived(t, s, given, claims(ahead...), e)
			told[[2]int64{e.Kind, derive(s, given, claims(ahead...), e).Code}]++
		}
	}
	for _, met := range [][2]int64{{1, impl.OK}, {2, impl.OK}, {2, impl.ErrRange}, {3, impl.OK}, {4, impl.OK}, {4, impl.ErrForm}, {4, impl.ErrNone}, {4, impl.ErrRange}, {5, impl.OK}, {5, impl.ErrForm}, {5, impl.ErrNone}, {5, impl.ErrRange}} {
		if told[met] < 100 {
			t.Errorf("by kind and code there were %v", told)
		}
	}
}

func TestCheckEntriesKnownValues(t *testing.T) {
	s, given := exampleSignature(), laws("i(i(A))=A", "i(e)=e", "m(B,A)=i(F)")
	for _, c := range []struct {
		what    string
		entries []impl.Entry
		code    int64
	}{
		{"nil", nil, impl.OK},
		{"no entries", []impl.Entry{}, impl.OK},
		{"a given one", []impl.Entry{step("i(i(A))=A", 1, 0, 0, 0, 0)}, impl.OK},
		{"the last given one, which is not plain", []impl.Entry{step("m(B,A)=i(F)", 1, 2, 0, 0, 0)}, impl.OK},
		{"the same given one twice", []impl.Entry{step("i(e)=e", 1, 1, 0, 0, 0), step("i(e)=e", 1, 1, 0, 0, 0)}, impl.OK},
		{"a given one whose number is that of none", []impl.Entry{step("i(e)=e", 1, 3, 0, 0, 0)}, impl.ErrRange},
		{"a given one that is another one", []impl.Entry{step("i(e)=e", 1, 0, 0, 0, 0)}, impl.ErrState},
		{"a given one made plain on the way", []impl.Entry{step("m(A,B)=i(C)", 1, 2, 0, 0, 0)}, impl.ErrState},
		{"a given one turned on the way", []impl.Entry{step("e=i(e)", 1, 1, 0, 0, 0)}, impl.ErrState},
		{"one whose Left alone is another", []impl.Entry{step("i(i(B))=A", 1, 0, 0, 0, 0)}, impl.ErrState},
		{"one whose Right alone is another", []impl.Entry{step("i(i(A))=B", 1, 0, 0, 0, 0)}, impl.ErrState},
		{"one without sides", []impl.Entry{{Kind: 1}}, impl.ErrState},
		{"one without a Left", []impl.Entry{{Kind: 1, Right: read("A")}}, impl.ErrState},
		{"one without a Right", []impl.Entry{{Kind: 1, Left: read("i(i(A))")}}, impl.ErrState},
		{"one whose Left has a node more", []impl.Entry{{Kind: 1, Left: append(read("i(i(A))"), -1), Right: read("A")}}, impl.ErrState},
		{"one whose Right is very long", []impl.Entry{{Kind: 1, Left: read("i(i(A))"), Right: make([]int64, 70000)}}, impl.ErrState},
		{"the zero value", []impl.Entry{{}}, impl.ErrForm},
		{"one of another kind that tells the same", []impl.Entry{step("i(e)=e", 1, 1, 0, 0, 0), step("i(e)=e", 3, 0, 0, 0, 0)}, impl.OK},
		{"one that comes from itself, turned", []impl.Entry{step("e=e", 2, 0, 0, 0, 0)}, impl.ErrRange},
		{"one that comes from itself, plain", []impl.Entry{step("i(e)=e", 3, 0, 0, 0, 0)}, impl.ErrRange},
		{"one that comes from itself, plain, behind another one", []impl.Entry{step("i(e)=e", 1, 1, 0, 0, 0), step("i(e)=e", 3, 1, 0, 0, 0)}, impl.ErrRange},
		{"one that comes from itself by its rule", []impl.Entry{step("i(i(A))=A", 1, 0, 0, 0, 0), step("A=A", 4, 0, 1, 0, 0)}, impl.ErrRange},
		{"one that comes from itself as the inner one of a peak", []impl.Entry{step("i(i(A))=A", 1, 0, 0, 0, 0), step("i(A)=i(A)", 5, 0, 1, 1, 0)}, impl.ErrRange},
		{"one that comes from itself as the outer one of a peak", []impl.Entry{step("i(i(A))=A", 1, 0, 0, 0, 0), step("i(A)=i(A)", 5, 1, 0, 1, 0)}, impl.ErrRange},
		{"one that comes from one behind it", []impl.Entry{step("e=i(e)", 2, 1, 0, 0, 0), step("i(e)=e", 1, 1, 0, 0, 0)}, impl.ErrRange},
		{"one that comes from the last one", []impl.Entry{step("i(e)=e", 1, 1, 0, 0, 0), step("i(e)=e", 3, 2, 0, 0, 0), step("i(e)=e", 1, 1, 0, 0, 0)}, impl.ErrRange},
		{"two that come from one another", []impl.Entry{step("i(e)=e", 2, 1, 0, 0, 0), step("e=i(e)", 2, 0, 0, 0, 0)}, impl.ErrRange},
		{"one whose rule comes too late", []impl.Entry{step("i(i(A))=A", 1, 0, 0, 0, 0), step("A=A", 4, 0, 2, 0, 0), step("i(i(A))=A", 1, 0, 0, 0, 0)}, impl.ErrRange},
		{"one whose rule is just ahead", []impl.Entry{step("i(i(A))=A", 1, 0, 0, 0, 0), step("i(i(A))=A", 1, 0, 0, 0, 0), step("A=A", 4, 0, 1, 0, 0)}, impl.OK},
		{"a rule that does not fit", []impl.Entry{step("i(i(A))=A", 1, 0, 0, 0, 0), step("i(i(A))=A", 4, 0, 0, 0, 1)}, impl.ErrNone},
		{"a place that is none", []impl.Entry{step("i(i(A))=A", 1, 0, 0, 0, 0), step("i(i(A))=A", 4, 0, 0, 3, 0)}, impl.ErrRange},
		{"a side that is none", []impl.Entry{step("i(i(A))=A", 1, 0, 0, 0, 0), step("A=A", 4, 0, 0, 0, 2)}, impl.ErrRange},
		{"a rule that is none", []impl.Entry{step("m(B,A)=i(F)", 1, 2, 0, 0, 0), step("i(F)=i(F)", 4, 0, 0, 0, 0)}, impl.ErrForm},
		{"a peak at a variable", []impl.Entry{step("i(i(A))=A", 1, 0, 0, 0, 0), step("A=A", 5, 0, 0, 2, 0)}, impl.ErrForm},
		{"a peak with a side", []impl.Entry{step("i(i(A))=A", 1, 0, 0, 0, 0), step("i(A)=i(A)", 5, 0, 0, 1, 1)}, impl.ErrForm},
		{"a peak, its sides the other way round", []impl.Entry{step("i(i(A))=A", 1, 0, 0, 0, 0), step("i(e)=e", 1, 1, 0, 0, 0), step("i(e)=e", 5, 0, 1, 1, 0)}, impl.ErrState},
		{"a peak, its sides as they are", []impl.Entry{step("i(i(A))=A", 1, 0, 0, 0, 0), step("i(e)=e", 1, 1, 0, 0, 0), step("e=i(e)", 5, 0, 1, 1, 0)}, impl.OK},
		{"a peak that is not plain", []impl.Entry{step("i(i(A))=A", 1, 0, 0, 0, 0), step("i(B)=i(B)", 5, 0, 0, 1, 0)}, impl.ErrState},
		{"one turned that is not", []impl.Entry{step("i(e)=e", 1, 1, 0, 0, 0), step("i(e)=e", 2, 0, 0, 0, 0)}, impl.ErrState},
		{"one plain that is not", []impl.Entry{step("m(B,A)=i(F)", 1, 2, 0, 0, 0), step("m(B,A)=i(F)", 3, 0, 0, 0, 0)}, impl.ErrState},
		{"one plain that is", []impl.Entry{step("m(B,A)=i(F)", 1, 2, 0, 0, 0), step("m(A,B)=i(C)", 3, 0, 0, 0, 0)}, impl.OK},
		{"one rewritten on the other side", []impl.Entry{step("i(e)=e", 1, 1, 0, 0, 0), step("i(e)=i(e)", 4, 0, 0, 0, 0)}, impl.ErrState},
		{"one not rewritten", []impl.Entry{step("i(e)=e", 1, 1, 0, 0, 0), step("i(e)=e", 4, 0, 0, 0, 0)}, impl.ErrState},
		{"one rewritten", []impl.Entry{step("i(e)=e", 1, 1, 0, 0, 0), step("e=e", 4, 0, 0, 0, 0)}, impl.OK},
	} {
		mustBe(t, "CheckEntries: "+c.what, impl.CheckEntries(s, given, c.entries), c.code)
		mustBe(t, "what is wanted: "+c.what, wantChecked(s, given, c.entries), c.code)
		checkEntries(t, s, given, c.entries)
		checkEntries(t, s, given[:2], c.entries)
		behind := append(slices.Clone(c.entries), step("i(i(A))=A", 1, 0, 0, 0, 0))
		mustBe(t, "CheckEntries, with one behind: "+c.what, impl.CheckEntries(s, given, behind), c.code)
	}
	mustBe(t, "CheckEntries of a given one without an equation", impl.CheckEntries(s, nil, []impl.Entry{step("e=e", 1, 0, 0, 0, 0)}), int64(impl.ErrRange))
}

func TestCheckEntriesOfGroups(t *testing.T) {
	s, all := exampleSignature(), groupEntries()
	for end := range len(all) + 1 {
		mustBe(t, fmt.Sprint("CheckEntries of the first ", end), impl.CheckEntries(s, threeLaws(), all[:end]), int64(impl.OK))
	}
	for begin := 1; begin < len(all); begin++ {
		checkEntries(t, s, threeLaws(), all[begin:])
	}
	for gone := range all {
		checkEntries(t, s, threeLaws(), slices.Delete(cloneEntries(all), gone, gone+1))
		checkEntries(t, s, slices.Delete(threeLaws(), gone%3, gone%3+1), all)
		for other := range all[:gone] {
			turned := cloneEntries(all)
			turned[gone], turned[other] = turned[other], turned[gone]
			checkEntries(t, s, threeLaws(), turned)
		}
	}
}

// turnedFields are entries of which one field each is another, by its name.
func turnedFields(e impl.Entry) map[string]impl.Entry {
	list := map[string]impl.Entry{}
	for _, by := range []int64{-1, 1, 2, 1 << 8, 1 << 32, math.MinInt64} {
		kind, a, b, place, side := e, e, e, e, e
		kind.Kind, a.A, b.B, place.Place, side.Side = kind.Kind+by, a.A+by, b.B+by, place.Place+by, side.Side+by
		for name, turned := range map[string]impl.Entry{"Kind": kind, "A": a, "B": b, "Place": place, "Side": side} {
			list[fmt.Sprint(name, " by ", by)] = turned
		}
	}
	for at := range e.Left {
		turned := e
		turned.Left = slices.Clone(e.Left)
		turned.Left[at]--
		list[fmt.Sprint("Left at ", at)] = turned
	}
	for at := range e.Right {
		turned := e
		turned.Right = slices.Clone(e.Right)
		turned.Right[at]--
		list[fmt.Sprint("Right at ", at)] = turned
	}
	left, right, longLeft, longRight := e, e, e, e
	left.Left, right.Right = e.Left[:len(e.Left)-1], e.Right[:len(e.Right)-1]
	longLeft.Left, longRight.Right = append(slices.Clone(e.Left), 0), append(slices.Clone(e.Right), 0)
	list["Left, one node fewer"], list["Right, one node fewer"], list["Left, one node more"], list["Right, one node more"] = left, right, longLeft, longRight
	return list
}

func TestCheckEntriesOfEachFieldTurned(t *testing.T) {
	s, all, refused := exampleSignature(), groupEntries(), 0
	for number, e := range all {
		for what, turned := range turnedFields(e) {
			entries := cloneEntries(all)
			entries[number] = turned
			code := impl.CheckEntries(s, threeLaws(), entries)
			who := fmt.Sprint("CheckEntries where entry ", number, " has another ", what)
			mustBe(t, who, code, wantChecked(s, threeLaws(), entries))
			mustBe(t, who+", up to that one", impl.CheckEntries(s, threeLaws(), entries[:number+1]), wantChecked(s, threeLaws(), entries[:number+1]))
			mustBe(t, who+": SameEntries", impl.SameEntries(all, entries), false)
			if code != impl.OK {
				refused++
			} else if strings.HasPrefix(what, "Left") || strings.HasPrefix(what, "Right") {
				t.Errorf("%s told 0", who)
			}
		}
	}
	if refused < 500 {
		t.Errorf("only %d lists were refused", refused)
	}
}

func TestCheckEntriesAsksCodesInTheirOrder(t *testing.T) {
	s, taken, good := exampleSignature(), signature(impl.Symbol{Name: "a"}, impl.Symbol{Name: "a"}), law("i(i(A))=A")
	first, form, state := step("i(i(A))=A", 1, 0, 0, 0, 0), impl.Entry{Kind: 6}, step("e=e", 1, 0, 0, 0, 0)
	late := step("i(i(A))=A", 3, 9, 0, 0, 0)
	half := equation([]int64{1}, read("e"))
	many := slices.Repeat([]impl.Entry{first}, 501)
	for _, c := range []struct {
		what    string
		s       impl.Signature
		given   []impl.Equation
		entries []impl.Entry
		code    int64
	}{
		{"the signature ahead of all", taken, slices.Repeat([]impl.Equation{half}, 13), append(many, form), impl.ErrTaken},
		{"the signature, no equations and no entries", taken, nil, nil, impl.ErrTaken},
		{"no symbols at all", impl.Signature{}, nil, nil, impl.ErrMany},
		{"no constant", noConstants(), nil, many, impl.ErrNone},
		{"too many equations ahead of a fault of one", s, append(slices.Repeat([]impl.Equation{good}, 12), half), []impl.Entry{form}, impl.ErrMany},
		{"an equation's fault ahead of too many entries", s, []impl.Equation{good, half}, many, impl.ErrForm},
		{"an equation's fault, no entries", s, []impl.Equation{good, half}, nil, impl.ErrForm},
		{"an equation's fault, where no entry comes from it", s, []impl.Equation{good, law("G=G")}, []impl.Entry{first}, impl.ErrRange},
		{"an equation's fault ahead of an entry's form", s, []impl.Equation{law("G=G")}, []impl.Entry{form}, impl.ErrRange},
		{"too many entries ahead of the first one's form", s, []impl.Equation{good}, append([]impl.Entry{form}, many...), impl.ErrMany},
		{"too many entries ahead of the first one's state", s, []impl.Equation{good}, append([]impl.Entry{state}, many...), impl.ErrMany},
		{"the first one's form ahead of the second one's state", s, []impl.Equation{good}, []impl.Entry{form, state}, impl.ErrForm},
		{"the first one's state ahead of the second one's form", s, []impl.Equation{good}, []impl.Entry{state, form}, impl.ErrState},
		{"the first one's state ahead of the second one's range", s, []impl.Equation{good}, []impl.Entry{state, late}, impl.ErrState},
		{"the first one's range ahead of the second one's state", s, []impl.Equation{good}, []impl.Entry{late, state}, impl.ErrRange},
		{"the third one's form ahead of the fourth one's range", s, []impl.Equation{good}, []impl.Entry{first, first, form, late}, impl.ErrForm},
		{"a state ahead of what comes from it", s, []impl.Equation{good}, []impl.Entry{state, step("e=e", 2, 0, 0, 0, 0)}, impl.ErrState},
		{"the kind ahead of its own state", s, []impl.Equation{good}, []impl.Entry{{Kind: 9, Left: read("e"), Right: read("e")}}, impl.ErrForm},
		{"b ahead of its own state", s, []impl.Equation{good}, []impl.Entry{{Kind: 1, B: 1}}, impl.ErrForm},
		{"its range ahead of its own state", s, []impl.Equation{good}, []impl.Entry{{Kind: 1, A: 1}}, impl.ErrRange},
		{"its rule ahead of its own state", s, []impl.Equation{good}, []impl.Entry{first, {Kind: 4, Place: 1}}, impl.ErrNone},
		{"its place ahead of its own state", s, []impl.Equation{good}, []impl.Entry{first, {Kind: 5, Place: 3}}, impl.ErrRange},
		{"a fault of its own Left is a state", s, []impl.Equation{good}, []impl.Entry{{Kind: 1, Left: []int64{1}, Right: read("A")}}, impl.ErrState},
		{"a fault of its own Right is a state", s, []impl.Equation{good}, []impl.Entry{{Kind: 1, Left: read("i(i(A))"), Right: []int64{-7}}}, impl.ErrState},
		{"too great an entry grows ahead of its own state", s, []impl.Equation{law("a=i(a)"), equation(chain(24), read("e"))}, []impl.Entry{step("a=i(a)", 1, 0, 0, 0, 0), {Kind: 1, A: 1, Left: chain(24), Right: read("e")}, {Kind: 4, A: 1, Place: 23}}, impl.ErrMany},
	} {
		mustBe(t, "CheckEntries: "+c.what, impl.CheckEntries(c.s, c.given, c.entries), c.code)
		mustBe(t, "what is wanted: "+c.what, wantChecked(c.s, c.given, c.entries), c.code)
		for _, entry := range []int64{-1, 0, 1, 600} {
			mustBe(t, "UsesOf: "+c.what, impl.UsesOf(c.s, c.given, c.entries, entry), impl.IntsResult{Code: c.code})
		}
	}
}

func TestCheckEntriesOfMaxEntriesAndNoMore(t *testing.T) {
	s, given := exampleSignature(), laws("i(i(A))=A", "i(e)=e")
	for _, c := range []struct {
		count int64
		code  int64
	}{{499, impl.OK}, {500, impl.OK}, {501, impl.ErrMany}, {502, impl.ErrMany}, {70000, impl.ErrMany}} {
		entries := []impl.Entry{step("i(i(A))=A", 1, 0, 0, 0, 0), step("A=i(i(A))", 2, 0, 0, 0, 0)}
		for number := int64(2); number < c.count; number++ {
			e := entries[number-2]
			e.Kind, e.A = impl.DerivePlain, number-2
			entries = append(entries, e)
		}
		mustBe(t, fmt.Sprint("CheckEntries of ", c.count), impl.CheckEntries(s, given, entries), c.code)
		mustBe(t, fmt.Sprint("the code of UsesOf the last one of ", c.count), impl.UsesOf(s, given, entries, c.count-1).Code, c.code)
		mustBe(t, fmt.Sprint("the code of EntriesHold of ", c.count), impl.EntriesHold(s, groupOfTwo(), entries).Code, c.code)
		mustBe(t, fmt.Sprint("SameEntries of ", c.count), impl.SameEntries(entries, cloneEntries(entries)), true)
		checkEntries(t, s, given, entries)
		entries[c.count-1].A = c.count - 1
		if c.code == impl.OK {
			mustBe(t, fmt.Sprint("CheckEntries of ", c.count, ", the last one from itself"), impl.CheckEntries(s, given, entries), int64(impl.ErrRange))
		}
		checkEntries(t, s, given, entries)
	}
}

func TestCheckEntriesOfManyEntries(t *testing.T) {
	s, numbers, met := crowd(), numbersByRule(261), map[int64]int{}
	for range 400 {
		given := []impl.Equation{}
		for range 1 + numbers.below(4) {
			given = append(given, numbers.crowdEquation())
		}
		entries := numbers.derivation(s, given, 40)
		checkEntries(t, s, given, entries)
		if len(entries) == 0 {
			continue
		}
		for range 6 {
			turned, at := cloneEntries(entries), numbers.below(len(entries))
			switch e := &turned[at]; numbers.below(6) {
			case 0:
				e.A = int64(numbers.below(len(entries) + 1))
			case 1:
				e.B = int64(numbers.below(len(entries) + 1))
			case 2:
				e.Place = int64(numbers.below(4))
			case 3:
				e.Side = 1 - e.Side
			case 4:
				e.Kind = int64(numbers.below(7))
			case 5:
				e.Left, e.Right = e.Right, e.Left
			}
			checkEntries(t, s, given, turned)
			met[impl.CheckEntries(s, given, turned)]++
		}
	}
	for _, code := range []int64{impl.OK, impl.ErrForm, impl.ErrRange, impl.ErrNone, impl.ErrState} {
		if met[code] < 30 {
			t.Errorf("CheckEntries told the codes %v", met)
		}
	}
}

func TestCheckEntriesOfWhateverLists(t *testing.T) {
	for i, s := range fewSignatures() {
		for j, given := range rewritingRules() {
			entries := []impl.Entry{}
			for number, e := range given[:min(len(given), 12)] {
				entries = append(entries, impl.Entry{Kind: 1, A: int64(number), Left: e.Left, Right: e.Right})
			}
			checkEntries(t, s, given, entries)
			checkEntries(t, s, given, claims(given...))
			turned := append(slices.Clone(entries), impl.Entry{Kind: 2, A: int64((i + j) % 4), Left: []int64{0}, Right: []int64{-1}})
			checkEntries(t, s, given, turned)
			checkEntries(t, s, rewritingRules()[(i+j)%len(rewritingRules())], turned)
		}
	}
	for _, s := range allSignatures() {
		checkEntries(t, s, nil, nil)
		checkEntries(t, s, []impl.Equation{equation([]int64{0}, []int64{0})}, []impl.Entry{{Kind: 1, Left: []int64{0}, Right: []int64{0}}})
	}
	for _, list := range longLists() {
		checkEntries(t, exampleSignature(), []impl.Equation{equation(list, list)}, []impl.Entry{{Kind: 1, Left: list, Right: list}, {Kind: 2, Left: list, Right: list}})
		checkEntries(t, exampleSignature(), laws("a=e"), []impl.Entry{{Kind: 1, Left: list, Right: list}})
	}
	for _, number := range slices.Concat(edgeNodes, edgeNumbers) {
		checkEntries(t, exampleSignature(), laws("a=e"), []impl.Entry{{Kind: 1, A: number, Left: []int64{3}, Right: []int64{0}}, {Kind: 2, A: number, Left: []int64{0}, Right: []int64{3}}})
		checkEntries(t, exampleSignature(), laws("a=e"), []impl.Entry{{Kind: number, Left: []int64{3}, Right: []int64{0}}})
		checkEntries(t, exampleSignature(), laws("a=e"), []impl.Entry{{Kind: 1, Left: []int64{3}, Right: []int64{0}}, {Kind: 4, B: number, Place: number, Side: number, Left: []int64{0}, Right: []int64{0}}})
	}
}

func TestUsesOfKnownValues(t *testing.T) {
	s, all := exampleSignature(), groupEntries()
	for number, uses := range groupUses {
		mustBe(t, fmt.Sprint("UsesOf entry ", number), impl.UsesOf(s, threeLaws(), all, int64(number)), impl.IntsResult{List: uses})
		mustBe(t, fmt.Sprint("what is wanted of entry ", number), wantUses(s, threeLaws(), all, int64(number)), impl.IntsResult{List: uses})
		mustBe(t, fmt.Sprint("UsesOf entry ", number, ", the last one"), impl.UsesOf(s, threeLaws(), all[:number+1], int64(number)), impl.IntsResult{List: uses})
	}
	for _, c := range []struct {
		what    string
		given   []impl.Equation
		entries []impl.Entry
		want    []int64
	}{
		{"a given one is its A, not its number", laws("a=e", "i(e)=e"), []impl.Entry{step("a=e", 1, 0, 0, 0, 0), step("i(e)=e", 1, 1, 0, 0, 0), step("a=e", 1, 0, 0, 0, 0)}, []int64{0}},
		{"the last one of MaxEquations", append(slices.Repeat(laws("e=e"), 11), law("a=e")), []impl.Entry{step("a=e", 1, 11, 0, 0, 0)}, []int64{11}},
		{"one turned", laws("a=e", "i(e)=e"), []impl.Entry{step("a=e", 1, 0, 0, 0, 0), step("i(e)=e", 1, 1, 0, 0, 0), step("e=i(e)", 2, 1, 0, 0, 0)}, []int64{1}},
		{"one turned, b is 0 and names nothing", laws("a=e", "i(e)=e"), []impl.Entry{step("a=e", 1, 0, 0, 0, 0), step("i(e)=e", 1, 1, 0, 0, 0), step("e=i(e)", 2, 1, 0, 0, 0), step("e=i(e)", 3, 2, 0, 0, 0)}, []int64{1}},
		{"one rewritten by another one", laws("a=e", "i(a)=e"), []impl.Entry{step("a=e", 1, 0, 0, 0, 0), step("i(a)=e", 1, 1, 0, 0, 0), step("i(e)=e", 4, 1, 0, 1, 0)}, []int64{0, 1}},
		{"one rewritten by one that was turned", laws("e=a", "i(a)=e", "a=e"), []impl.Entry{step("e=a", 1, 0, 0, 0, 0), step("a=e", 2, 0, 0, 0, 0), step("i(a)=e", 1, 1, 0, 0, 0), step("i(e)=e", 4, 2, 1, 1, 0)}, []int64{0, 1}},
		{"a peak of two", laws("a=e", "i(a)=e"), []impl.Entry{step("i(a)=e", 1, 1, 0, 0, 0), step("a=e", 1, 0, 0, 0, 0), step("e=i(e)", 5, 0, 1, 1, 0)}, []int64{0, 1}},
		{"numbers that rise, the greater one first on the way", laws("e=e", "a=e", "a=a", "i(a)=e"), []impl.Entry{step("i(a)=e", 1, 3, 0, 0, 0), step("a=e", 1, 1, 0, 0, 0), step("i(e)=e", 4, 0, 1, 1, 0)}, []int64{1, 3}},
		{"one equation in two ways, by itself", laws("a=i(a)"), []impl.Entry{step("a=i(a)", 1, 0, 0, 0, 0), step("a=i(i(a))", 4, 0, 0, 1, 1)}, []int64{0}},
		{"one equation in two ways, by two entries", laws("e=e", "a=i(a)"), []impl.Entry{step("a=i(a)", 1, 1, 0, 0, 0), step("a=i(a)", 1, 1, 0, 0, 0), step("a=i(i(a))", 4, 0, 1, 1, 1)}, []int64{1}},
		{"one equation in two ways, by a peak with itself", laws("e=e", "i(i(A))=A"), []impl.Entry{step("i(i(A))=A", 1, 1, 0, 0, 0), step("i(A)=i(A)", 5, 0, 0, 1, 0)}, []int64{1}},
		{"one that is only ahead and not used", laws("a=e", "i(e)=e", "i(a)=a"), []impl.Entry{step("a=e", 1, 0, 0, 0, 0), step("i(a)=a", 1, 2, 0, 0, 0), step("i(e)=e", 1, 1, 0, 0, 0), step("i(e)=e", 3, 2, 0, 0, 0)}, []int64{1}},
		{"one that is only ahead of what it comes from", laws("a=e", "i(e)=e"), []impl.Entry{step("a=e", 1, 0, 0, 0, 0), step("e=a", 2, 0, 0, 0, 0), step("i(e)=e", 1, 1, 0, 0, 0), step("e=i(e)", 2, 2, 0, 0, 0), step("i(e)=e", 2, 3, 0, 0, 0)}, []int64{1}},
		{"the same equation given twice", laws("a=e", "a=e"), []impl.Entry{step("a=e", 1, 1, 0, 0, 0), step("e=a", 2, 0, 0, 0, 0)}, []int64{1}},
	} {
		last := int64(len(c.entries)) - 1
		mustBe(t, "UsesOf: "+c.what, impl.UsesOf(s, c.given, c.entries, last), impl.IntsResult{List: c.want})
		checkEntries(t, s, c.given, c.entries)
		behind := append(slices.Clone(c.entries), impl.Entry{Kind: 1, Left: c.given[0].Left, Right: c.given[0].Right})
		mustBe(t, "UsesOf, with one behind: "+c.what, impl.UsesOf(s, c.given, behind, last), impl.IntsResult{List: c.want})
		mustBe(t, "UsesOf the one behind: "+c.what, impl.UsesOf(s, c.given, behind, last+1), impl.IntsResult{List: []int64{0}})
	}
}

func TestUsesOfBounds(t *testing.T) {
	s, all := exampleSignature(), groupEntries()
	for _, entry := range slices.Concat(edgeNumbers, []int64{-2, -1, 0, 1, 12, 13, 14, 24, 1 << 32, 1<<32 + 1}) {
		for _, end := range []int{0, 1, 13} {
			code := int64(impl.OK)
			if entry < 0 || entry >= int64(end) {
				code = impl.ErrRange
			}
			told := impl.UsesOf(s, threeLaws(), all[:end], entry)
			mustBe(t, fmt.Sprint("the code of UsesOf entry ", entry, " of ", end), told.Code, code)
			if code != impl.OK {
				mustBe(t, fmt.Sprint("UsesOf entry ", entry, " of ", end), told, impl.IntsResult{Code: code})
			}
		}
		mustBe(t, fmt.Sprint("UsesOf entry ", entry, " ahead of one that is not right"), impl.UsesOf(s, threeLaws(), append(slices.Clone(all), impl.Entry{}), entry), impl.IntsResult{Code: impl.ErrForm})
	}
}

func TestUsesOfAllEquations(t *testing.T) {
	s, given, entries := exampleSignature(), []impl.Equation{}, []impl.Entry{}
	for number := range int64(12) {
		e := equation(chain(int(number)+1), chain(int(number)+2))
		given, entries = append(given, e), append(entries, impl.Entry{Kind: 1, A: number, Left: e.Left, Right: e.Right})
	}
	// Each step goes on from the last one by the next given one: so it comes from one equation more.
	uses, last := []int64{0}, int64(0)
	for number := int64(1); number < 12; number++ {
		entries = append(entries, impl.Entry{Kind: 4, A: last, B: number, Side: 1, Left: chain(1), Right: chain(int(number) + 2)})
		uses, last = append(uses, number), int64(len(entries))-1
		mustBe(t, fmt.Sprint("UsesOf what comes from the first ", number+1), impl.UsesOf(s, given, entries, last), impl.IntsResult{List: uses})
	}
	checkEntries(t, s, given, entries)
}

// someLaws are so many equations over the example's symbols that fit into one another in many ways; some stand there twice.
func (r *numbersByRule) someLaws(count int) []impl.Equation {
	all := append(groupLaws(), laws("m(A,B)=m(B,A)", "m(A,A)=A", "a=e", "m(a,A)=i(A)", "i(m(A,B))=m(A,i(B))", "i(A)=A", "m(A,B)=A", "m(C,B)=m(B,i(a))", "i(i(i(A)))=a", "A=m(A,a)", "e=i(B)", "m(A,m(A,B))=B")...)
	list := []impl.Equation{}
	for range count {
		list = append(list, all[r.below(len(all))])
	}
	return list
}

func TestUsesOfManyEntries(t *testing.T) {
	s, numbers, met := exampleSignature(), numbersByRule(271), map[int]int{}
	for range 80 {
		given := numbers.someLaws(3 + numbers.below(6))
		entries := numbers.derivation(s, given, 250)
		checkEntries(t, s, given, entries)
		for number := range int64(len(entries)) {
			if entries[number].Kind != impl.DeriveGiven {
				met[len(impl.UsesOf(s, given, entries, number).List)]++
			}
		}
	}
	for _, count := range []int{1, 2, 3} {
		if met[count] < 100 {
			t.Errorf("by how many equations it came from there were %v", met)
		}
	}
}

func TestSameEntriesKnownValues(t *testing.T) {
	all := groupEntries()
	for number, e := range all {
		for what, turned := range turnedFields(e) {
			other := cloneEntries(all)
			other[number] = turned
			mustBe(t, fmt.Sprint("SameEntries, entry ", number, " has another ", what), impl.SameEntries(all, other), false)
			mustBe(t, fmt.Sprint("SameEntries turned, entry ", number, " has another ", what), impl.SameEntries(other, all), false)
			mustBe(t, fmt.Sprint("SameEntries of both, entry ", number, " has another ", what), impl.SameEntries(other, cloneEntries(other)), true)
			mustBe(t, fmt.Sprint("SameEntries of one, entry ", number, " has another ", what), impl.SameEntries([]impl.Entry{e}, []impl.Entry{turned}), false)
		}
	}
	for end := range len(all) + 1 {
		mustBe(t, fmt.Sprint("SameEntries of the first ", end), impl.SameEntries(all[:end], cloneEntries(all[:end])), true)
		mustBe(t, fmt.Sprint("SameEntries of all and the first ", end), impl.SameEntries(all, all[:end]), end == len(all))
		mustBe(t, fmt.Sprint("SameEntries of the first ", end, " and all"), impl.SameEntries(all[:end], all), end == len(all))
		mustBe(t, fmt.Sprint("SameEntries of all and those behind the first ", end), impl.SameEntries(all, all[end:]), end == 0)
	}
	turned := cloneEntries(all)
	turned[0], turned[1] = turned[1], turned[0]
	mustBe(t, "SameEntries of two in another order", impl.SameEntries(all, turned), false)
	sides := cloneEntries(all)
	sides[4].Left, sides[4].Right = sides[4].Right, sides[4].Left
	mustBe(t, "SameEntries, both sides of one turned", impl.SameEntries(all, sides), false)
	for place, c := range [][2]impl.Entry{
		{{A: 1}, {B: 1}}, {{B: 1}, {Place: 1}}, {{Place: 1}, {Side: 1}}, {{Kind: 1}, {A: 1}}, {{Left: []int64{0}}, {Right: []int64{0}}}, {{Left: []int64{0, 0}}, {Left: []int64{0}, Right: []int64{0}}}, {{A: 1, B: 2}, {A: 2, B: 1}},
	} {
		mustBe(t, fmt.Sprint("SameEntries of two of the number ", place), impl.SameEntries(c[:1], c[1:]), false)
	}
}

func TestSameEntriesOfAnyLists(t *testing.T) {
	none := []int64{}
	for _, c := range []struct {
		what string
		a, b []impl.Entry
		want bool
	}{
		{"nil and nil", nil, nil, true},
		{"nil and empty", nil, []impl.Entry{}, true},
		{"empty and nil", []impl.Entry{}, nil, true},
		{"empty and one", []impl.Entry{}, []impl.Entry{{}}, false},
		{"nil and one", nil, []impl.Entry{{}}, false},
		{"zero values", []impl.Entry{{}}, []impl.Entry{{}}, true},
		{"one and two zero values", []impl.Entry{{}}, []impl.Entry{{}, {}}, false},
		{"no sides and empty ones", []impl.Entry{{Left: none, Right: none}}, []impl.Entry{{}}, true},
		{"no Left and an empty one", []impl.Entry{{Kind: 9, Right: []int64{7}}}, []impl.Entry{{Kind: 9, Left: none, Right: []int64{7}}}, true},
		{"an empty Right and none", []impl.Entry{{Kind: 9, Left: []int64{7}, Right: none}}, []impl.Entry{{Kind: 9, Left: []int64{7}}}, true},
		{"numbers that are none's", claims(laws("G=i(L)", "A=e")...), claims(laws("G=i(L)", "A=e")...), true},
		{"numbers that are none's, and another node that is none", []impl.Entry{{A: math.MinInt64, Left: []int64{99}}}, []impl.Entry{{A: math.MinInt64, Left: []int64{98}}}, false},
		{"more than MaxEntries", slices.Repeat(claims(law("a=e")), 501), slices.Repeat(claims(law("a=e")), 501), true},
		{"more than MaxEntries, one fewer", slices.Repeat(claims(law("a=e")), 501), slices.Repeat(claims(law("a=e")), 502), false},
		{"more than MaxEntries, the last one another", append(slices.Repeat(claims(law("a=e")), 501), claims(law("a=a"))...), slices.Repeat(claims(law("a=e")), 502), false},
		{"more nodes than MaxNodes", claims(equation(chain(70000), chain(25))), claims(equation(chain(70000), chain(25))), true},
		{"more nodes than MaxNodes, the last one another", claims(equation(chain(70000), chain(25))), claims(equation(chain(70000), append(chain(24), 0))), false},
		{"the least number and the greatest one", []impl.Entry{{Side: math.MinInt64}}, []impl.Entry{{Side: math.MaxInt64}}, false},
		{"numbers that are the same in 32 bits", []impl.Entry{{Kind: 1}}, []impl.Entry{{Kind: 1<<32 + 1}}, false},
	} {
		mustBe(t, "SameEntries: "+c.what, impl.SameEntries(c.a, c.b), c.want)
		mustBe(t, "SameEntries turned: "+c.what, impl.SameEntries(c.b, c.a), c.want)
		mustBe(t, "SameEntries of the first one: "+c.what, impl.SameEntries(c.a, c.a), true)
		mustBe(t, "SameEntries of the first one and its like: "+c.what, impl.SameEntries(c.a, cloneEntries(c.a)), true)
	}
}

func TestEntriesHoldKnownValues(t *testing.T) {
	s, two, yes, no := exampleSignature(), groupOfTwo(), impl.IntResult{Value: 1}, impl.IntResult{}
	good, bad, fault, half := law("m(A,A)=e"), law("e=a"), law("G=G"), equation([]int64{1}, nil)
	code := func(code int64) impl.IntResult { return impl.IntResult{Code: code} }
	for _, c := range []struct {
		what string
		list []impl.Equation
		want impl.IntResult
	}{
		{"no entries", nil, yes},
		{"one that holds", []impl.Equation{good}, yes},
		{"one that does not", []impl.Equation{bad}, no},
		{"one that holds and one that does not", []impl.Equation{good, bad}, no},
		{"one that does not and one that holds", []impl.Equation{bad, good}, no},
		{"one that does not between others", []impl.Equation{good, bad, good}, no},
		{"two that do not", laws("A=B", "e=a"), no},
		{"one that holds for the first values alone, and one for the others", laws("m(A,A)=A", "m(A,a)=e"), no},
		{"all rules of groups", groupLaws(), yes},
		{"more than MaxEquations", slices.Repeat([]impl.Equation{good}, 13), yes},
		{"just MaxEntries", slices.Repeat([]impl.Equation{good}, 500), yes},
		{"just MaxEntries, the last one does not hold", append(slices.Repeat([]impl.Equation{good}, 499), bad), no},
		{"just MaxEntries, the first one does not hold", append([]impl.Equation{bad}, slices.Repeat([]impl.Equation{good}, 499)...), no},
		{"just MaxEntries, a fault of the last one", append(slices.Repeat([]impl.Equation{good}, 499), fault), code(impl.ErrRange)},
		{"one more than MaxEntries", slices.Repeat([]impl.Equation{good}, 501), code(impl.ErrMany)},
		{"one more than MaxEntries, none of which holds", slices.Repeat([]impl.Equation{bad}, 501), code(impl.ErrMany)},
		{"very many", slices.Repeat([]impl.Equation{good}, 70000), code(impl.ErrMany)},
		{"too many ahead of a fault of the first one", append([]impl.Equation{fault}, slices.Repeat([]impl.Equation{good}, 500)...), code(impl.ErrMany)},
		{"a fault of the only one", []impl.Equation{fault}, code(impl.ErrRange)},
		{"a fault of the last one, behind one that holds", []impl.Equation{good, fault}, code(impl.ErrRange)},
		{"a fault of the last one, behind one that does not hold", []impl.Equation{bad, fault}, code(impl.ErrRange)},
		{"a fault of the last one, behind one that does not hold and one that does", []impl.Equation{bad, good, half}, code(impl.ErrForm)},
		{"a fault of the first one, ahead of one that does not hold", []impl.Equation{fault, bad}, code(impl.ErrRange)},
		{"a fault of each of two", []impl.Equation{half, fault}, code(impl.ErrForm)},
		{"a fault of each of two, the other way round", []impl.Equation{fault, half}, code(impl.ErrRange)},
		{"no sides", []impl.Equation{{}}, code(impl.ErrMany)},
	} {
		entries := claims(c.list...)
		mustBe(t, "EntriesHold: "+c.what, impl.EntriesHold(s, two, entries), c.want)
		mustBe(t, "what is wanted: "+c.what, wantEntriesHold(s, two, entries), c.want)
		for _, a := range someAlgebras() {
			checkEntriesHold(t, s, a, entries[:min(len(entries), 600)])
		}
		if len(c.list) <= 12 {
			mustBe(t, "AllHold of the same: "+c.what, impl.AllHold(s, two, c.list), c.want)
		}
	}
}

func TestEntriesHoldAsksCodesInTheirOrder(t *testing.T) {
	s, taken, two := exampleSignature(), signature(impl.Symbol{Name: "a"}, impl.Symbol{Name: "a"}), groupOfTwo()
	lists := [][]impl.Entry{nil, claims(law("e=a")), claims(equation([]int64{1}, nil)), slices.Repeat(claims(law("e=a")), 501), slices.Repeat(claims(equation(nil, nil)), 501), {{}}}
	for _, c := range []struct {
		what string
		s    impl.Signature
		a    impl.Algebra
		code int64
	}{
		{"the signature", taken, two, impl.ErrTaken},
		{"the signature ahead of the size", taken, impl.Algebra{}, impl.ErrTaken},
		{"no symbols", impl.Signature{}, two, impl.ErrMany},
		{"no constant", noConstants(), two, impl.ErrNone},
		{"the size", s, impl.Algebra{}, impl.ErrRange},
		{"the size ahead of the tables", s, withSize(two, 4), impl.ErrRange},
		{"the count of tables", s, algebra(2, two.Tables[:3]...), impl.ErrMany},
		{"a table's length", s, withTable(two, 2, 0), impl.ErrMany},
		{"a table's number", s, withTable(two, 3, 2), impl.ErrRange},
	} {
		for _, entries := range lists {
			mustBe(t, "EntriesHold: "+c.what, impl.EntriesHold(c.s, c.a, entries), impl.IntResult{Code: c.code})
			mustBe(t, "what is wanted: "+c.what, wantEntriesHold(c.s, c.a, entries), impl.IntResult{Code: c.code})
		}
	}
}

func TestEntriesHoldAsksNotWhereTheyComeFrom(t *testing.T) {
	s, all := exampleSignature(), groupEntries()
	for _, a := range []impl.Algebra{onePoint(), groupOfTwo(), groupOfThree()} {
		mustBe(t, "EntriesHold of what comes from the laws of groups", impl.EntriesHold(s, a, all), impl.IntResult{Value: 1})
		for begin := range all {
			mustBe(t, "EntriesHold of some of them", impl.EntriesHold(s, a, all[begin:]), impl.IntResult{Value: 1})
		}
		for number, e := range all {
			for what, turned := range turnedFields(e) {
				if !strings.HasPrefix(what, "Left") && !strings.HasPrefix(what, "Right") {
					entries := cloneEntries(all)
					entries[number] = turned
					mustBe(t, "EntriesHold, with another "+what, impl.EntriesHold(s, a, entries), impl.IntResult{Value: 1})
				}
			}
		}
	}
	for number, want := range []int64{0, 0, 1, 0, 0, 0, 0, 0, 0, 0, 0, 1, 1} {
		mustBe(t, fmt.Sprint("EntriesHold of entry ", number, " by the first of two"), impl.EntriesHold(s, firstOfTwo(), all[number:number+1]), impl.IntResult{Value: want})
	}
}

func TestEntriesHoldOfWhateverLists(t *testing.T) {
	algebras := algebrasToAsk()
	for i, s := range fewSignatures() {
		for j, rules := range rewritingRules() {
			checkEntriesHold(t, s, algebras[(i+j)%len(algebras)], claims(rules...))
			checkEntriesHold(t, s, algebra(2, slices.Repeat([][]int64{{1}}, len(s.Symbols))...), claims(rules...))
			checkEntriesHold(t, exampleSignature(), algebras[(i+3*j)%len(algebras)], claims(rules...))
		}
	}
	for i, left := range longLists() {
		for _, right := range [][]int64{{0}, {-1}, nil, chain(24), chain(25)} {
			checkEntriesHold(t, exampleSignature(), someAlgebras()[i%len(someAlgebras())], claims(law("A=A"), equation(left, right)))
			checkEntriesHold(t, exampleSignature(), someAlgebras()[i%len(someAlgebras())], claims(equation(right, left), law("A=A")))
		}
	}
	few := ruleTerms(2, -1, -6)
	for i, left := range few {
		for j, right := range few {
			for _, a := range someAlgebras() {
				checkEntriesHold(t, exampleSignature(), a, claims(equation(left, right), equation(few[(i+3*j)%len(few)], few[(5*i+j)%len(few)])))
			}
		}
	}
}

// kindsOf counts entries by their kinds.
func kindsOf(entries []impl.Entry, counts map[int64]int) {
	for _, e := range entries {
		counts[e.Kind]++
	}
}

func TestP12WhatIsDerivedIsAcceptedWhenItIsChecked(t *testing.T) {
	s, numbers, kinds := exampleSignature(), numbersByRule(281), map[int64]int{}
	for range 60 {
		given, entries := numbers.someLaws(1+numbers.below(8)), []impl.Entry{}
		for range 150 {
			e := numbers.someNumbers(len(given), len(entries))
			told := derive(s, given, entries, e)
			if told.Code != impl.OK {
				mustBe(t, "DeriveEntry with a code", told, impl.EntryResult{Code: told.Code})
				e.Left, e.Right = read("e"), read("e")
				mustBe(t, "CheckEntries of what was not derived", impl.CheckEntries(s, given, append(slices.Clone(entries), e)), told.Code)
				continue
			}
			entries = append(entries, told.Entry)
			mustBe(t, "CheckEntries of "+briefEntries(entries...), impl.CheckEntries(s, given, entries), int64(impl.OK))
			mustBe(t, "the code of UsesOf what was derived", impl.UsesOf(s, given, entries, int64(len(entries))-1).Code, int64(impl.OK))
		}
		kindsOf(entries, kinds)
	}
	for kind := int64(1); kind <= 5; kind++ {
		if kinds[kind] < 100 {
			t.Errorf("by their kinds there were %v", kinds)
		}
	}
}

func TestP12WhatIsDerivedIsAcceptedUpToMaxEntries(t *testing.T) {
	s, given, entries := exampleSignature(), laws("m(A,B)=m(B,A)", "i(i(A))=A"), []impl.Entry{}
	for number := range int64(500) {
		e := []impl.Entry{{Kind: 1}, {Kind: 1, A: 1}, {Kind: 2, A: number - 1}, {Kind: 3, A: number - 3}, {Kind: 4, A: number - 4, B: number - 4, Side: 1}, {Kind: 5, A: number - 4, B: number - 4, Place: 1}}[number%6]
		told := derive(s, given, entries, e)
		mustBe(t, fmt.Sprint("the code of DeriveEntry behind ", number), told.Code, int64(impl.OK))
		entries = append(entries, told.Entry)
	}
	mustBe(t, "CheckEntries of MaxEntries", impl.CheckEntries(s, given, entries), int64(impl.OK))
	told := impl.DeriveEntry(s, given, entries, impl.DeriveTurned, 499, 0, 0, 0)
	mustBe(t, "the code of DeriveEntry behind MaxEntries", told.Code, int64(impl.OK))
	mustBe(t, "CheckEntries of one more than MaxEntries", impl.CheckEntries(s, given, append(entries, told.Entry)), int64(impl.ErrMany))
	for _, a := range []impl.Algebra{onePoint(), groupOfTwo(), groupOfThree(), leastOfThree()} {
		want := impl.AllHold(s, a, given)
		mustBe(t, "EntriesHold of MaxEntries", impl.EntriesHold(s, a, entries), want)
	}
}

func TestP12NothingElseIsAcceptedWhenItIsChecked(t *testing.T) {
	s, numbers, refused := exampleSignature(), numbersByRule(291), 0
	for range 30 {
		given := numbers.someLaws(3)
		entries := numbers.derivation(s, given, 60)
		for number, e := range entries {
			for _, side := range [][2][]int64{{e.Right, e.Left}, {e.Left, numbers.term(1+numbers.below(4), 3)}, {numbers.term(1+numbers.below(4), 3), e.Right}, {e.Left, nil}, {nil, e.Right}, {e.Left, append(slices.Clone(e.Right), 0)}} {
				if slices.Equal(side[0], e.Left) && slices.Equal(side[1], e.Right) {
					continue
				}
				turned := cloneEntries(entries)
				turned[number].Left, turned[number].Right = side[0], side[1]
				mustBe(t, fmt.Sprint("CheckEntries with other sides of entry ", number, " of ", briefEntries(turned...)), impl.CheckEntries(s, given, turned), int64(impl.ErrState))
				refused++
			}
		}
	}
	if refused < 2000 {
		t.Errorf("only %d lists were refused", refused)
	}
}

func pick(list []impl.Equation, numbers []int64) []impl.Equation {
	picked := []impl.Equation{}
	for _, number := range numbers {
		picked = append(picked, list[number])
	}
	return picked
}

// mustHoldWhereItsEquationsDo tells of how many entries the equations that they come from hold in that algebra, while some other given one does not.
func mustHoldWhereItsEquationsDo(t *testing.T, s impl.Signature, a impl.Algebra, given []impl.Equation, entries []impl.Entry) int {
	t.Helper()
	all, alone := impl.AllHold(s, a, given), 0
	for number, e := range entries {
		uses := impl.UsesOf(s, given, entries, int64(number))
		mustBe(t, "the code of UsesOf", uses.Code, int64(impl.OK))
		if impl.AllHold(s, a, pick(given, uses.List)).Value == 0 {
			continue
		}
		if all.Value == 0 && e.Kind != impl.DeriveGiven {
			alone++
		}
		who := fmt.Sprint("entry ", number, " of ", briefEntries(entries...))
		mustBe(t, "EntriesHold of "+who, impl.EntriesHold(s, a, []impl.Entry{e}), impl.IntResult{Value: 1})
		if number%7 == 0 {
			mustHold(t, s, a, who, bothSides(e))
		}
	}
	if all.Value == 1 {
		mustBe(t, "EntriesHold of all of "+briefEntries(entries...), impl.EntriesHold(s, a, entries), all)
	}
	return alone
}

func TestP12WhatIsDerivedHoldsWhereverItsEquationsHold(t *testing.T) {
	s, numbers, alone, whole := exampleSignature(), numbersByRule(301), 0, 0
	for range 60 {
		given := numbers.someLaws(2 + numbers.below(5))
		entries := numbers.derivation(s, given, 60)
		algebras := someAlgebras()
		for range 10 {
			algebras = append(algebras, impl.AlgebraOf(s, int64(2+numbers.below(2)), int64(numbers.below(65521))).Algebra)
		}
		for _, a := range algebras {
			alone += mustHoldWhereItsEquationsDo(t, s, a, given, entries)
			whole += int(impl.AllHold(s, a, given).Value)
		}
	}
	if alone < 500 || whole < 50 {
		t.Errorf("only %d entries came from equations that held beside others, and only %d times did all hold", alone, whole)
	}
}

func TestP12WhatIsDerivedHoldsWhereverItsEquationsHoldInTheCrowd(t *testing.T) {
	s, numbers, alone, derived := crowd(), numbersByRule(311), 0, 0
	for range 60 {
		a := numbers.someCrowdAlgebra()
		given := append(numbers.rulesThatHold(a, 30), numbers.rules(3)...)
		given = given[max(0, len(given)-12):]
		entries := numbers.derivation(s, given, 200)
		alone += mustHoldWhereItsEquationsDo(t, s, a, given, entries)
		derived += len(entries) - len(given)
	}
	if alone < 200 || derived < 1000 {
		t.Errorf("only %d entries were derived, and %d came from equations that held beside others", derived, alone)
	}
}

func TestP12WhatIsDerivedHoldsInGroups(t *testing.T) {
	s, numbers := exampleSignature(), numbersByRule(321)
	for range 10 {
		entries := numbers.derivation(s, groupLaws(), 250)
		mustBe(t, "CheckEntries", impl.CheckEntries(s, groupLaws(), entries), int64(impl.OK))
		for _, a := range []impl.Algebra{onePoint(), groupOfTwo(), groupOfThree()} {
			mustHoldWhereItsEquationsDo(t, s, a, groupLaws(), entries)
			mustBe(t, "EntriesHold by "+briefAlgebra(a), impl.EntriesHold(s, a, entries), impl.IntResult{Value: 1})
		}
	}
}

func TestP12WhatDoesNotHoldComesFromWhatDoesNot(t *testing.T) {
	s, all := exampleSignature(), groupEntries()
	for _, c := range []struct {
		what  string
		a     impl.Algebra
		holds []int64
	}{
		{"e is none that changes nothing", withTable(groupOfThree(), 0, 1), []int64{0, 0, 1}},
		{"the first argument alone", firstOfTwo(), []int64{0, 0, 1}},
		{"differences", differences(), []int64{0, 0, 0}},
		{"a group", groupOfThree(), []int64{1, 1, 1}},
		{"i leaves all as it is", withTable(groupOfThree(), 1, 0, 1, 2), []int64{1, 0, 1}},
	} {
		for number, want := range c.holds {
			mustBe(t, fmt.Sprint("Holds of law ", number, ": ", c.what), impl.Holds(s, c.a, threeLaws()[number]), impl.IntResult{Value: want})
		}
		for number, e := range all {
			if impl.EntriesHold(s, c.a, []impl.Entry{e}).Value == 0 {
				uses := impl.UsesOf(s, threeLaws(), all, int64(number)).List
				mustBe(t, fmt.Sprint("AllHold of what entry ", number, " comes from: ", c.what), impl.AllHold(s, c.a, pick(threeLaws(), uses)), impl.IntResult{})
			}
		}
	}
	// By i that leaves all as it is, this one does not hold: so the second law is none that could be left out of what it comes from.
	mustBe(t, "EntriesHold of an entry that comes from the second law", impl.EntriesHold(s, withTable(groupOfThree(), 1, 0, 1, 2), all[4:5]), impl.IntResult{})
}

// deriveAnswers calls every function of the chapter with whatever of the arguments it takes.
func deriveAnswers(s impl.Signature, a impl.Algebra, given []impl.Equation, entries []impl.Entry, other []impl.Entry, numbers impl.Entry) []any {
	answers := []any{
		impl.CheckEntries(s, given, entries), impl.UsesOf(s, given, entries, numbers.A), impl.UsesOf(s, given, entries, int64(len(entries))-1), impl.SameEntries(entries, other), impl.EntriesHold(s, a, entries),
	}
	for kind := range int64(7) {
		answers = append(answers, impl.DeriveEntry(s, given, entries, kind, 0, 0, 0, 0), impl.DeriveEntry(s, given, entries, kind, numbers.A, numbers.B, numbers.Place, numbers.Side))
	}
	return append(answers, derive(s, given, entries, numbers))
}

// entriesToAsk are some without a fault by the three laws of groups, and some with each one.
func entriesToAsk() [][]impl.Entry {
	good := groupEntries()
	return [][]impl.Entry{
		nil, {}, good, good[:1], good[1:], {{}}, {step("m(e,A)=A", 1, 0, 0, 0, 0), step("A=m(e,A)", 2, 0, 0, 0, 0)}, claims(groupLaws()...), claims(variedEquations(13)...), claims(law("G=G")), claims(equation([]int64{0}, nil)),
		{step("m(e,A)=A", 1, 0, 0, 0, 0), step("m(e,A)=A", 1, 0, 0, 0, 0)}, {step("e=e", 1, 0, 0, 0, 0)}, {step("a=e", 1, 5, 0, 0, 0)}, slices.Repeat(good[:1], 500), slices.Repeat(good[:1], 501), {{Kind: 1, Left: []int64{0}, Right: []int64{0}}},
	}
}

var numbersToAsk = []impl.Entry{
	{}, {Kind: 1}, {Kind: 2, A: 1}, {Kind: 3, A: 5}, {Kind: 4, A: 3}, {Kind: 4, A: 1, B: 1, Side: 0}, {Kind: 4, A: 3, B: 4, Side: 1}, {Kind: 5, A: 2, B: 1, Place: 1}, {Kind: 5, A: 4, B: 4, Place: 3},
	{Kind: 5, A: 12, B: 12, Place: 2, Side: 1}, {Kind: 6, A: -1, B: -1, Place: -1, Side: -1}, {Kind: math.MinInt64, A: math.MinInt64, B: math.MinInt64, Place: math.MinInt64, Side: math.MinInt64},
	{Kind: math.MaxInt64, A: math.MaxInt64, B: math.MaxInt64, Place: math.MaxInt64, Side: math.MaxInt64}, {Kind: 4, A: 0, B: 0, Place: math.MaxInt64, Side: math.MaxInt64}, {Kind: 1, A: 499}, {Kind: 2, A: 500},
}

func givensToAsk() [][]impl.Equation {
	return slices.Concat(rewritingRules(), [][]impl.Equation{threeLaws(), threeLaws(), append(threeLaws(), law("e=a"))})
}

// guardedEntries is a list of entries all of whose sides lie in greater lists, as it does itself.
type guardedEntries struct {
	sides  []guarded[int64]
	whole  []impl.Entry
	before []impl.Entry
	list   []impl.Entry
}

func guardEntries(entries []impl.Entry) guardedEntries {
	edge := impl.Entry{Kind: guardNumber, A: guardNumber, Left: []int64{guardNumber}}
	g := guardedEntries{whole: []impl.Entry{edge}}
	for _, e := range entries {
		left, right := guardNumbers(e.Left), guardNumbers(e.Right)
		e.Left, e.Right = left.list, right.list
		g.sides, g.whole = append(g.sides, left, right), append(g.whole, e)
	}
	g.whole = append(g.whole, edge)
	g.before, g.list = cloneEntries(g.whole), g.whole[1:len(entries)+1]
	return g
}

func (g guardedEntries) mustBeUnchanged(t *testing.T, who string) {
	t.Helper()
	for _, inside := range g.sides {
		inside.mustBeUnchanged(t, who)
	}
	if !slices.EqualFunc(g.whole, g.before, sameFields) {
		t.Errorf("%s changed its entries", who)
	}
}

func sameFields(a impl.Entry, b impl.Entry) bool {
	left, right := slices.Equal(a.Left, b.Left), slices.Equal(a.Right, b.Right)
	return left && right && [5]int64{a.Kind, a.A, a.B, a.Place, a.Side} == [5]int64{b.Kind, b.A, b.B, b.Place, b.Side}
}

func (g guardedEntries) overwrite() {
	for _, inside := range g.sides {
		overwriteNumbers(inside.whole)
	}
	clear(g.whole)
}

func TestP1DeriveAnswersHangOnTheArgumentsAlone(t *testing.T) {
	givens, algebras := givensToAsk(), algebrasToAsk()
	for i, s := range fewSignatures() {
		for j, entries := range entriesToAsk() {
			for k, numbers := range numbersToAsk {
				given, a, other := givens[(i+3*j+5*k)%len(givens)], algebras[(i+j+7*k)%len(algebras)], entriesToAsk()[(i+5*j+k)%len(entriesToAsk())]
				first := deriveAnswers(s, a, given, entries, other, numbers)
				deriveAnswers(exampleSignature(), groupOfThree(), threeLaws(), groupEntries(), groupEntries(), impl.Entry{Kind: 5, A: 4, B: 1, Place: 3})
				mustBe(t, "the same call again", deriveAnswers(s, a, given, entries, other, numbers), first)
				again := deriveAnswers(signature(guardSymbols(s.Symbols).list...), guardAlgebra(a).a, guardRules(given).list, guardEntries(entries).list, guardEntries(other).list, numbers)
				mustBe(t, "the same call with other memory", again, first)
			}
		}
	}
}

func TestP1EveryNumberOfAnEntryIsAnswered(t *testing.T) {
	s, all := exampleSignature(), groupEntries()
	for _, a := range edgeNumbers {
		for _, b := range []int64{math.MinInt64, -1, 0, 1, 12, math.MaxInt64} {
			for _, place := range []int64{math.MinInt64, -1, 0, 3, math.MaxInt64} {
				for kind := int64(-1); kind <= 6; kind++ {
					for _, side := range []int64{math.MinInt64, -1, 0, 1, 2, math.MaxInt64} {
						checkDerived(t, s, threeLaws(), all[:5], impl.Entry{Kind: kind, A: a, B: b, Place: place, Side: side})
						checkDerived(t, s, threeLaws(), all[:5], impl.Entry{Kind: kind, A: b, B: a, Place: place, Side: side})
					}
				}
			}
		}
	}
}

func TestP1NilAndEmptyEntriesAreTheSame(t *testing.T) {
	none := []int64{}
	for _, s := range fewSignatures() {
		for _, numbers := range numbersToAsk {
			mustBe(t, "empty lists", deriveAnswers(s, algebra(2), []impl.Equation{}, []impl.Entry{}, []impl.Entry{}, numbers), deriveAnswers(s, algebra(2), nil, nil, nil, numbers))
			mustBe(t, "empty sides", deriveAnswers(s, groupOfTwo(), []impl.Equation{equation(none, none)}, []impl.Entry{{Kind: 1, Left: none, Right: none}}, []impl.Entry{{}}, numbers), deriveAnswers(s, groupOfTwo(), []impl.Equation{{}}, []impl.Entry{{Kind: 1}}, []impl.Entry{{}}, numbers))
			mustBe(t, "an empty Right", deriveAnswers(s, groupOfTwo(), threeLaws(), []impl.Entry{{Kind: 1, Left: []int64{0}, Right: none}}, nil, numbers), deriveAnswers(s, groupOfTwo(), threeLaws(), []impl.Entry{{Kind: 1, Left: []int64{0}}}, nil, numbers))
			mustBe(t, "an empty Left", deriveAnswers(s, groupOfTwo(), threeLaws(), []impl.Entry{{Kind: 1, Left: none, Right: []int64{0}}}, nil, numbers), deriveAnswers(s, groupOfTwo(), threeLaws(), []impl.Entry{{Kind: 1, Right: []int64{0}}}, nil, numbers))
			for _, given := range givensToAsk() {
				mustBe(t, "no entries", deriveAnswers(s, groupOfTwo(), given, []impl.Entry{}, nil, numbers), deriveAnswers(s, groupOfTwo(), given, nil, []impl.Entry{}, numbers))
			}
		}
	}
	mustBe(t, "an empty signature", deriveAnswers(signature([]impl.Symbol{}...), algebra(1), nil, nil, nil, impl.Entry{}), deriveAnswers(impl.Signature{}, algebra(1), nil, nil, nil, impl.Entry{}))
}

func TestP1DeriveArgumentsAreNotChanged(t *testing.T) {
	for i, entries := range entriesToAsk() {
		for j, given := range givensToAsk() {
			symbols, rules, first, second, whole := guardSymbols(exampleSignature().Symbols), guardRules(given), guardEntries(entries), guardEntries(entriesToAsk()[(i+j)%len(entriesToAsk())]), guardAlgebra(someAlgebras()[j%len(someAlgebras())])
			for k := range 4 {
				deriveAnswers(signature(symbols.list...), whole.a, rules.list, first.list, second.list, numbersToAsk[(i+j+3*k)%len(numbersToAsk)])
			}
			symbols.mustBeUnchanged(t, "a function of derivations")
			rules.mustBeUnchanged(t, "a function of derivations")
			first.mustBeUnchanged(t, "a function of derivations")
			second.mustBeUnchanged(t, "a function of derivations")
			whole.mustBeUnchanged(t, "a function of derivations")
		}
	}
	s, given, entries := guardSymbols(exampleSignature().Symbols), guardRules(threeLaws()), guardEntries(groupEntries())
	for number, e := range groupEntries() {
		told := derive(signature(s.list...), given.list, entries.list[:number], e)
		mustBe(t, fmt.Sprint("DeriveEntry ahead of others, number ", number), told, impl.EntryResult{Entry: e})
	}
	s.mustBeUnchanged(t, "DeriveEntry")
	given.mustBeUnchanged(t, "DeriveEntry")
	entries.mustBeUnchanged(t, "DeriveEntry")
}

func TestP1EntriesAreNewMemory(t *testing.T) {
	s, all := exampleSignature(), groupEntries()
	for _, want := range append(groupEntries(), step("A=m(i(i(A)),e)", 3, 12, 0, 0, 0), step("e=m(i(A),A)", 2, 1, 0, 0, 0), step("e=e", 5, 1, 1, 0, 0), step("m(m(A,B),C)=m(A,m(B,C))", 3, 2, 0, 0, 0)) {
		given, entries := guardRules(threeLaws()), guardEntries(all)
		ask := func() impl.Equation { return bothSides(derive(s, given.list, entries.list, want).Entry) }
		kept := derive(s, given.list, entries.list, want)
		checkNewSides(t, "DeriveEntry", bothSides(want), ask)
		given.mustBeUnchanged(t, "who overwrote the answer of DeriveEntry")
		entries.mustBeUnchanged(t, "who overwrote the answer of DeriveEntry")
		given.overwrite()
		entries.overwrite()
		mustBe(t, "DeriveEntry of arguments that were overwritten", kept, impl.EntryResult{Entry: want})
	}
	for number, uses := range groupUses {
		given, entries := guardRules(threeLaws()), guardEntries(all)
		kept := impl.UsesOf(s, given.list, entries.list, int64(number))
		checkNewNumbers(t, "UsesOf", uses, func() []int64 { return impl.UsesOf(s, given.list, entries.list, int64(number)).List })
		given.mustBeUnchanged(t, "who overwrote the answer of UsesOf")
		entries.mustBeUnchanged(t, "who overwrote the answer of UsesOf")
		given.overwrite()
		entries.overwrite()
		mustBe(t, "UsesOf arguments that were overwritten", kept, impl.IntsResult{List: uses})
	}
}

func TestP1EntriesOfListsThatShareMemory(t *testing.T) {
	s := exampleSignature()
	for _, term := range [][]int64{read("i(m(i(A),B))"), read("m(m(A,B),m(B,A))"), read("i(i(i(a)))"), read("m(i(e),i(e))")} {
		for place := range term {
			given := guardNumbers(term)
			part := given.list[place : place+len(wantSubterm(s, term, int64(place)).Term)]
			equations := []impl.Equation{equation(given.list, part), equation(part, given.list), equation(given.list, given.list), equation(part, part)}
			entries := []impl.Entry{}
			for number, e := range equations {
				entries = append(entries, impl.Entry{Kind: 1, A: int64(number), Left: e.Left, Right: e.Right}, impl.Entry{Kind: 2, A: int64(2 * number), Left: e.Right, Right: e.Left})
			}
			mustBe(t, "CheckEntries of lists that share memory", impl.CheckEntries(s, equations, entries), int64(impl.OK))
			checkEntries(t, s, equations, entries)
			checkEntriesHold(t, s, groupOfThree(), entries)
			for kind := int64(1); kind <= 5; kind++ {
				for a := range int64(4) {
					for b := range int64(1 + 3*(kind/4)) {
						numbers := impl.Entry{Kind: kind, A: a, B: b}
						checkDerived(t, s, equations, entries, numbers)
						told := derive(s, equations, entries, numbers)
						overwriteNumbers(told.Entry.Left)
						overwriteNumbers(told.Entry.Right)
					}
				}
			}
			given.mustBeUnchanged(t, "a function of derivations of lists that share memory, or who overwrote its answer,")
		}
	}
}

func TestDerivationsAreNotLedBehindTheEndBySpareRoom(t *testing.T) {
	s, all, given := exampleSignature(), groupEntries(), threeLaws()
	for end := range all {
		checkEntries(t, s, given, all[:end])
		for _, numbers := range all {
			checkDerived(t, s, given, all[:end], numbers)
		}
		checkEntriesHold(t, s, groupOfThree(), all[:end])
		mustBe(t, "UsesOf the entry behind the end", impl.UsesOf(s, given, all[:end], int64(end)), impl.IntsResult{Code: impl.ErrRange})
	}
	for end := range given {
		checkEntries(t, s, given[:end], all)
		checkDerived(t, s, given[:end], all, impl.Entry{Kind: 1, A: int64(end)})
	}
	whole := read("m(m(A,B),C)")
	for end := range whole {
		checkDerived(t, s, []impl.Equation{equation(whole, whole[:end])}, nil, impl.Entry{Kind: 1})
		checkDerived(t, s, nil, claims(equation(whole[:end], whole)), impl.Entry{Kind: 2})
		checkEntries(t, s, []impl.Equation{equation(whole, whole)}, []impl.Entry{{Kind: 1, Left: whole, Right: whole[:end]}})
		checkEntries(t, s, []impl.Equation{equation(whole, whole)}, []impl.Entry{{Kind: 1, Left: whole[:end], Right: whole}})
		mustBe(t, "SameEntries of a side that ends too early", impl.SameEntries([]impl.Entry{{Left: whole[:end]}}, []impl.Entry{{Left: whole}}), false)
	}
}

func TestP1DerivationsOfManyWaysEnd(t *testing.T) {
	s, given := exampleSignature(), laws("m(A,B)=m(B,A)")
	entries := []impl.Entry{step("m(A,B)=m(B,A)", 1, 0, 0, 0, 0), step("m(A,B)=m(A,B)", 4, 0, 0, 0, 1)}
	for number := int64(2); number < 500; number++ {
		entries = append(entries, step("m(A,B)=m(A,B)", 4, number-1, number-1, 0, 1))
	}
	peaks := []impl.Entry{step("m(A,B)=m(B,A)", 1, 0, 0, 0, 0)}
	for number := int64(1); number < 500; number++ {
		peaks = append(peaks, step("m(A,B)=m(A,B)", 5, number-1, number-1, 0, 0))
	}
	mustEndSoon(t, "asking what comes from one equation in very many ways", func() {
		for _, list := range [][]impl.Entry{entries, peaks} {
			mustBe(t, "CheckEntries of very many ways", impl.CheckEntries(s, given, list), int64(impl.OK))
			for number := int64(0); number < 500; number += 37 {
				mustBe(t, "UsesOf in very many ways", impl.UsesOf(s, given, list, number), impl.IntsResult{List: []int64{0}})
			}
			mustBe(t, "UsesOf the last one", impl.UsesOf(s, given, list, 499), impl.IntsResult{List: []int64{0}})
		}
	})
}

func TestP1DerivationsOfGreatTermsEnd(t *testing.T) {
	s, three := exampleSignature(), groupOfThree()
	great := varied(-1, -2, -3, -4, -5, -6, -1, -2, -3, -4, -5, -6)
	turned := varied(-6, -5, -4, -3, -2, -1, -6, -5, -4, -3, -2, -1)
	given, entries := slices.Repeat([]impl.Equation{equation(great, turned)}, 12), []impl.Entry{}
	for number := range int64(500) {
		entries = append(entries, impl.Entry{Kind: 1, A: number % 12, Left: great, Right: turned})
	}
	mustEndSoon(t, "asking for derivations of great terms", func() {
		mustBe(t, "CheckEntries of great terms", impl.CheckEntries(s, given, entries), int64(impl.OK))
		mustBe(t, "EntriesHold of great terms", impl.EntriesHold(s, three, entries), impl.IntResult{Value: 1})
		for kind := int64(1); kind <= 5; kind++ {
			checkDerived(t, s, given, entries, impl.Entry{Kind: kind, A: 11, B: 11 * (kind / 4)})
		}
	})
}

func TestP1NothingIsKeptOfADerivation(t *testing.T) {
	s, given, entries := exampleSignature(), threeLaws(), groupEntries()
	deriveAnswers(s, groupOfThree(), given, entries, entries, impl.Entry{Kind: 5, A: 4, Place: 3})
	copy(given[1].Left, read("m(i(A),e)"))
	mustBe(t, "CheckEntries by the new law", impl.CheckEntries(s, given, entries), int64(impl.ErrState))
	mustBe(t, "UsesOf by the new law", impl.UsesOf(s, given, entries, 0), impl.IntsResult{Code: impl.ErrState})
	mustBe(t, "DeriveEntry by the new law", impl.DeriveEntry(s, given, entries, 1, 1, 0, 0, 0), impl.EntryResult{Entry: step("m(i(A),e)=e", 1, 1, 0, 0, 0)})
	copy(given[1].Left, read("m(i(A),A)"))
	mustBe(t, "CheckEntries by the old law", impl.CheckEntries(s, given, entries), int64(impl.OK))
	entries[6].Kind, entries[6].A = impl.DerivePlain, 1
	mustBe(t, "CheckEntries of another source", impl.CheckEntries(s, given, entries), int64(impl.ErrState))
	entries[6].Left, entries[6].Right = read("m(i(A),A)"), read("e")
	mustBe(t, "CheckEntries of the new entry", impl.CheckEntries(s, given, entries), int64(impl.OK))
	mustBe(t, "UsesOf the new entry", impl.UsesOf(s, given, entries, 6), impl.IntsResult{List: []int64{1}})
	entries[6].Kind, entries[6].A, entries[6].Left, entries[6].Right = impl.DeriveGiven, 0, read("m(e,A)"), read("A")
	mustBe(t, "UsesOf another new entry", impl.UsesOf(s, given, entries, 6), impl.IntsResult{List: []int64{0}})
	mustBe(t, "SameEntries of the new ones", impl.SameEntries(entries, groupEntries()), false)
	mustBe(t, "EntriesHold", impl.EntriesHold(s, groupOfThree(), entries), impl.IntResult{Value: 1})
	entries[12].Right[0] = 1
	entries[12].Right = entries[12].Right[:2]
	mustBe(t, "EntriesHold of the new side", impl.EntriesHold(s, groupOfThree(), entries), impl.IntResult{Code: impl.ErrForm})
	entries[12].Right = read("e")
	mustBe(t, "EntriesHold of another new side", impl.EntriesHold(s, groupOfThree(), entries), impl.IntResult{})
	mustBe(t, "EntriesHold by one point", impl.EntriesHold(s, onePoint(), entries), impl.IntResult{Value: 1})
	s.Symbols[2] = impl.Symbol{Name: "m", Arity: 1}
	mustBe(t, "CheckEntries by the new arity", impl.CheckEntries(s, given, entries), int64(impl.ErrForm))
}
