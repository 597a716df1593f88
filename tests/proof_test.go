package tests

import (
	"fmt"
	"math"
	"math/rand"
	"runtime"
	"slices"
	"testing"
	"time"

	"loop.example/g00144/impl"
)

// followsByHand: does a lemma follow from a right Cnf and lemmas that are right?
func followsByHand(c impl.Cnf, ahead [][]int64, lemma []int64) bool {
	return apartByHand(c.Vars, lemma) && unitRunByHand(c, ahead, minus(lemma)).Conflict >= 0
}

// lemmaByHand: what LemmaRight is to tell.
func lemmaByHand(c impl.Cnf, ahead [][]int64, lemma []int64) bool {
	if len(ahead) > impl.MaxList || len(lemma) > impl.MaxList || !cnfRightByHand(c) {
		return false
	}
	for _, list := range ahead {
		if !apartByHand(c.Vars, list) {
			return false
		}
	}
	return followsByHand(c, ahead, lemma)
}

// proofByHand: what ProofFault is to tell.
func proofByHand(c impl.Cnf, lemmas [][]int64) impl.ProofOut {
	if len(lemmas) > impl.MaxList {
		return impl.ProofOut{Code: impl.ErrSize}
	}
	if !cnfRightByHand(c) {
		return impl.ProofOut{Code: impl.ErrForm}
	}
	for at, lemma := range lemmas {
		if !followsByHand(c, lemmas[:at], lemma) {
			return impl.ProofOut{At: int64(at)}
		}
	}
	if count := len(lemmas); count == 0 || len(lemmas[count-1]) > 0 {
		return impl.ProofOut{At: int64(count)}
	}
	return impl.ProofOut{At: -1}
}

// cutByHand: what ProofCut is to tell beside such an answer of ProofFault.
func cutByHand(lemmas [][]int64, out impl.ProofOut) [][]int64 {
	cut := [][]int64(nil)
	if out.Code != impl.OK || out.At != -1 {
		return cut
	}
	for _, lemma := range lemmas {
		cut = append(cut, lemma)
		if len(lemma) == 0 {
			break
		}
	}
	return cut
}

// wantProof asks ProofFault, and the other calls for the same in their words.
func wantProof(t *testing.T, what string, c impl.Cnf, lemmas [][]int64, want impl.ProofOut) {
	t.Helper()
	if got := impl.ProofFault(c, lemmas); got != want {
		t.Errorf("%.400s: got %+v, want %+v", what, got, want)
	}
	if got := impl.ProofRight(c, lemmas); got != (want == impl.ProofOut{At: -1}) {
		t.Errorf("%.400s: a whole proof is told as %v", what, got)
	}
	if got := impl.ProofCut(c, lemmas); !slices.EqualFunc(got, cutByHand(lemmas, want), slices.Equal[[]int64]) {
		t.Errorf("%.400s: is cut to %v", what, got)
	}
	follow := want.At
	if want.Code == impl.OK && want.At == -1 {
		follow = int64(len(lemmas))
	}
	// Each lemma ahead of the fault follows, and the one there does not.
	for at, lemma := range lemmas[:min(follow+1, int64(len(lemmas)))] {
		right := want.Code == impl.OK && int64(at) < follow
		if want.Code != impl.ErrSize && impl.LemmaRight(c, lemmas[:at], lemma) != right {
			t.Errorf("%.400s: the lemma at %d is told as %v", what, at, !right)
		}
	}
}

func wholeProof() impl.ProofOut {
	return impl.ProofOut{At: -1}
}

// faultAt: the first lemma that does not follow is there, or all follow, so many, and are no whole proof.
func faultAt(at int) impl.ProofOut {
	return impl.ProofOut{At: int64(at)}
}

func TestProofAtItsEdges(t *testing.T) {
	for _, c := range []struct {
		what    string
		vars    int64
		clauses [][]int64
		lemmas  [][]int64
		want    impl.ProofOut
	}{
		{"nothing at all", 0, nil, nil, faultAt(0)},
		{"no lemma, empty lists", 0, [][]int64{}, [][]int64{}, faultAt(0)},
		{"no variable, the empty lemma", 0, nil, [][]int64{{}}, faultAt(0)},
		{"no variable, two empty lemmas", 0, nil, [][]int64{nil, {}}, faultAt(0)},
		{"no variable, a lemma of one", 0, nil, [][]int64{{1}}, faultAt(0)},
		{"no variable, a clause of no literal, no lemma", 0, [][]int64{{}}, nil, faultAt(0)},
		{"no variable, a clause of no literal, the empty lemma", 0, [][]int64{{}}, [][]int64{{}}, wholeProof()},
		{"no variable, a clause of no literal, no list as a lemma", 0, [][]int64{nil}, [][]int64{nil}, wholeProof()},
		{"no variable, a clause of no literal, two empty lemmas", 0, [][]int64{{}}, [][]int64{{}, {}}, wholeProof()},
		{"no variable, a clause of no literal, a literal", 0, [][]int64{{}}, [][]int64{{1}}, faultAt(0)},
		{"no variable, a clause of no literal, a literal in the midst", 0, [][]int64{{}}, [][]int64{{}, {-1}, {}}, faultAt(1)},
		{"true clauses, no lemma", 2, [][]int64{{1, 2}}, nil, faultAt(0)},
		{"true clauses, the empty lemma", 2, [][]int64{{1, 2}}, [][]int64{{}}, faultAt(0)},
		{"no clause, the empty lemma", 3, nil, [][]int64{{}}, faultAt(0)},
		{"no clause, any lemma", 3, nil, [][]int64{{1, 2, 3}}, faultAt(0)},
		{"false at once, no lemma", 1, [][]int64{{1}, {-1}}, nil, faultAt(0)},
		{"false at once, the empty lemma", 1, [][]int64{{1}, {-1}}, [][]int64{{}}, wholeProof()},
		{"false at once by units, the empty lemma", 3, [][]int64{{-2, 3}, {-1, 2}, {-3}, {1}}, [][]int64{{}}, wholeProof()},
		{"false, but not at once, the empty lemma", 2, allSigns(2), [][]int64{{}}, faultAt(0)},
		{"false, but not at once, a lemma ahead of the empty one", 2, allSigns(2), [][]int64{{-1}, {}}, wholeProof()},
		{"false, but not at once, the other way round", 2, allSigns(2), [][]int64{{1}, {}}, wholeProof()},
		{"false, but not at once, the other variable", 2, allSigns(2), [][]int64{{2}, {}}, wholeProof()},
		{"false, but not at once, a lemma alone", 2, allSigns(2), [][]int64{{-1}}, faultAt(1)},
		{"false, but not at once, two lemmas, not empty", 2, allSigns(2), [][]int64{{-1}, {2}}, faultAt(2)},
		{"the empty lemma ahead of a lemma", 2, allSigns(2), [][]int64{{}, {-1}}, faultAt(0)},
		{"a clause again", 3, [][]int64{{1, -2}}, [][]int64{{1, -2}}, faultAt(1)},
		{"a clause again, its literals in another order", 3, [][]int64{{1, -2}}, [][]int64{{-2, 1}}, faultAt(1)},
		{"a clause with one literal more", 3, [][]int64{{1, -2}}, [][]int64{{1, 3, -2}}, faultAt(1)},
		{"a clause with one literal less", 3, [][]int64{{1, -2}}, [][]int64{{1}}, faultAt(0)},
		{"a clause with a literal turned round", 3, [][]int64{{1, -2}}, [][]int64{{1, 2}}, faultAt(0)},
		{"a unit", 3, [][]int64{{1}}, [][]int64{{1}}, faultAt(1)},
		{"a unit turned round", 3, [][]int64{{1}}, [][]int64{{-1}}, faultAt(0)},
		{"what follows from two clauses", 3, [][]int64{{1, 2}, {-2, 3}}, [][]int64{{1, 3}}, faultAt(1)},
		{"what follows from a chain", 5, chain(5, false), [][]int64{{-1, 5}}, faultAt(1)},
		{"what follows from a chain, turned round", 5, chain(5, true), [][]int64{{5, -1}}, faultAt(1)},
		{"what does not follow from a chain", 5, chain(5, false), [][]int64{{1, -5}}, faultAt(0)},
		{"lemmas one behind the other", 3, allSigns(3), [][]int64{{-1, -2}, {-1}, {-2}, {}}, wholeProof()},
		{"without the first one", 3, allSigns(3), [][]int64{{-1}, {-2}, {}}, faultAt(0)},
		{"without the second one", 3, allSigns(3), [][]int64{{-1, -2}, {-2}, {}}, faultAt(2)},
		{"without the third one", 3, allSigns(3), [][]int64{{-1, -2}, {-1}, {}}, faultAt(2)},
		{"without the last one", 3, allSigns(3), [][]int64{{-1, -2}, {-1}, {-2}}, faultAt(3)},
		{"the first two in the other order", 3, allSigns(3), [][]int64{{-1}, {-1, -2}, {-2}, {}}, faultAt(0)},
		{"a lemma that is so, but does not follow at once", 3, allSigns(3), [][]int64{{1}}, faultAt(0)},
		{"a lemma twice", 3, allSigns(3), [][]int64{{-1, -2}, {-1, -2}, {-1}, {-1}, {-2}, {}}, wholeProof()},
		{"one more lemma behind the empty one", 2, allSigns(2), [][]int64{{-1}, {}, {2}}, faultAt(3)},
		{"an empty one in the midst", 2, allSigns(2), [][]int64{{-1}, {}, {2}, {}}, wholeProof()},
		{"an empty one in the midst and a wrong one behind it", 2, allSigns(2), [][]int64{{-1}, {}, {3}, {}}, faultAt(2)},
		{"an empty one in the midst and none of literals behind it", 2, allSigns(2), [][]int64{{-1}, {}, {0}}, faultAt(2)},
		{"two empty ones at the end", 2, allSigns(2), [][]int64{{-1}, {}, {}}, wholeProof()},
		{"two empty ones alone, false at once", 1, [][]int64{{1}, {-1}}, [][]int64{{}, {}}, wholeProof()},
		{"two empty ones alone, not false at once", 2, allSigns(2), [][]int64{{}, {}}, faultAt(0)},
		{"any lemma behind an empty one", 4, [][]int64{{1}, {-1}}, [][]int64{{}, {2, -4}, {3}, {1, 2, 3, 4}, {}}, wholeProof()},
		{"any lemma of what is false at once", 4, [][]int64{{1}, {-1}}, [][]int64{{2, -4}, {3}, {1, 2, 3, 4}, {}}, wholeProof()},
		{"any lemma beside a clause of no literal", 4, [][]int64{{1, 2}, {}}, [][]int64{{2, -4}, {3}, {1, 2, 3, 4}, {}}, wholeProof()},
		{"one that does not follow behind one that does not", 3, [][]int64{{1}}, [][]int64{{1}, {2}, {3}, {}}, faultAt(1)},
		{"one that follows behind one that does not", 3, [][]int64{{1}}, [][]int64{{1}, {2}, {1}, {1, 3}}, faultAt(1)},
		{"one that follows only from one that does not", 3, allSigns(3), [][]int64{{-1}, {-1, 3}, {}}, faultAt(0)},
		{"a wrong one behind one that does not follow", 3, [][]int64{{1}}, [][]int64{{2}, {0}}, faultAt(0)},
		{"one that does not follow behind a wrong one", 3, [][]int64{{1}}, [][]int64{{0}, {2}}, faultAt(0)},
		{"the empty one behind one that does not follow", 2, allSigns(2), [][]int64{{-1}, {0}, {}}, faultAt(1)},
		{"a crowd for two places", 6, crowdIn(2).Clauses, [][]int64{{-1}, {}}, wholeProof()},
	} {
		cnf := impl.Cnf{Vars: c.vars, Clauses: c.clauses}
		wantProof(t, c.what, cnf, c.lemmas, c.want)
		if got := proofByHand(cnf, c.lemmas); got != c.want {
			t.Errorf("%s by hand: got %+v, want %+v", c.what, got, c.want)
		}
	}
}

// Where the lemmas are cut: told by hand, list by list.
func TestProofCut(t *testing.T) {
	falseOnes := impl.Cnf{Vars: 2, Clauses: allSigns(2)}
	atOnce := impl.Cnf{Vars: 2, Clauses: [][]int64{{1}, {-1}}}
	for _, c := range []struct {
		what   string
		cnf    impl.Cnf
		lemmas [][]int64
		want   [][]int64
	}{
		{"no lemma", falseOnes, nil, nil},
		{"all of it", falseOnes, [][]int64{{-1}, {}}, [][]int64{{-1}, {}}},
		{"two empty ones", falseOnes, [][]int64{{-1}, {}, {}}, [][]int64{{-1}, {}}},
		{"one in the midst", falseOnes, [][]int64{{-1}, {2}, {}, {-2}, {1, 2}, {}}, [][]int64{{-1}, {2}, {}}},
		{"the first one", atOnce, [][]int64{{}, {1}, {2}, {}}, [][]int64{{}}},
		{"the first one of many", atOnce, make([][]int64, impl.MaxList), [][]int64{{}}},
		{"the last one of many", atOnce, append(repeated(impl.MaxList-1, 2), nil), append(repeated(impl.MaxList-1, 2), nil)},
		{"one more than many", atOnce, make([][]int64, impl.MaxList+1), nil},
		{"not to an empty one", falseOnes, [][]int64{{-1}, {}, {2}}, nil},
		{"what does not follow", falseOnes, [][]int64{{}}, nil},
		{"what does not follow behind the empty one", falseOnes, [][]int64{{-1}, {}, {3}, {}}, nil},
		{"what is not right", falseOnes, [][]int64{{-1}, {}, {1, -1}, {}}, nil},
		{"clauses that are not right", impl.Cnf{Vars: 2, Clauses: [][]int64{{}, {0}}}, [][]int64{{}}, nil},
		{"clauses that can be true", impl.Cnf{Vars: 2, Clauses: [][]int64{{1, 2}}}, [][]int64{{1, 2}, {}}, nil},
	} {
		got := impl.ProofCut(c.cnf, c.lemmas)
		if !slices.EqualFunc(got, c.want, slices.Equal[[]int64]) {
			t.Errorf("%s: got %v, want %v", c.what, got, c.want)
		}
		// What is cut is a whole proof, and is not cut again.
		if len(got) > 0 {
			wantProof(t, c.what+", cut", c.cnf, got, wholeProof())
			if again := impl.ProofCut(c.cnf, got); !slices.EqualFunc(again, got, slices.Equal[[]int64]) {
				t.Errorf("%s: %v is cut again to %v", c.what, got, again)
			}
		}
	}
}

func TestLemmaRight(t *testing.T) {
	falseOnes := impl.Cnf{Vars: 2, Clauses: allSigns(2)}
	three := impl.Cnf{Vars: 3, Clauses: allSigns(3)}
	free := impl.Cnf{Vars: 3}
	for _, c := range []struct {
		what   string
		cnf    impl.Cnf
		lemmas [][]int64
		lemma  []int64
		want   bool
	}{
		{"nothing", impl.Cnf{}, nil, nil, false},
		{"nothing, a clause of no literal", impl.Cnf{Clauses: [][]int64{{}}}, nil, nil, true},
		{"nothing, an empty lemma ahead", impl.Cnf{}, [][]int64{{}}, []int64{}, true},
		{"one literal", falseOnes, nil, []int64{-1}, true},
		{"no literal", falseOnes, nil, nil, false},
		{"no literal behind one", falseOnes, [][]int64{{-1}}, nil, true},
		{"only with those ahead", three, [][]int64{{-1, -2}}, []int64{-1}, true},
		{"not without them", three, nil, []int64{-1}, false},
		{"not with others", three, [][]int64{{2, 3}}, []int64{-1}, false},
		// The lemmas ahead are to be right, and need not follow themselves.
		{"what stands ahead need not follow", free, [][]int64{{1, 2}, {-2}}, []int64{1}, true},
		{"an empty one ahead need not follow", free, [][]int64{{}}, []int64{3}, true},
		{"an empty one behind an empty one", free, [][]int64{{}}, nil, true},
		{"an empty one behind what makes it", free, [][]int64{{1}, {-1}}, nil, true},
		{"the same one ahead", free, [][]int64{{1, -3}}, []int64{-3, 1}, true},
		{"the same one ahead, turned round", free, [][]int64{{1, -3}}, []int64{3, -1}, false},
		{"a wrong one ahead", free, [][]int64{{1, 1}, {2}}, []int64{2}, false},
		{"a wrong one ahead of false clauses", falseOnes, [][]int64{{3}}, []int64{-1}, false},
		{"a literal of 0 ahead", falseOnes, [][]int64{{-1}, {0}}, nil, false},
		{"a wrong one behind the empty one", free, [][]int64{{}, {4}}, []int64{1}, false},
		{"a wrong one", free, [][]int64{{}}, []int64{4}, false},
		{"both of one variable, which is so", free, [][]int64{{}}, []int64{1, -1}, false},
		{"both of one variable, no lemma ahead", free, nil, []int64{1, -1}, false},
		{"the same literal twice", falseOnes, nil, []int64{-1, -1}, false},
		{"all variables", three, nil, []int64{1, -2, 3}, true},
		{"all variables, behind nothing", free, nil, []int64{1, -2, 3}, false},
		{"clauses that are not right", impl.Cnf{Vars: 2, Clauses: [][]int64{{}, {3}}}, nil, nil, false},
	} {
		if got := impl.LemmaRight(c.cnf, c.lemmas, c.lemma); got != c.want {
			t.Errorf("%s: got %v, want %v", c.what, got, c.want)
		}
		if got := lemmaByHand(c.cnf, c.lemmas, c.lemma); got != c.want {
			t.Errorf("%s by hand: got %v, want %v", c.what, got, c.want)
		}
	}
}

// A lemma of MaxVars literals may follow, one of one more is not right.
func TestLemmaOfMaxVars(t *testing.T) {
	all := countUp(1, impl.MaxVars)
	for what, c := range map[string]impl.Cnf{
		"a wide clause": {Vars: impl.MaxVars, Clauses: [][]int64{countUp(81, 96)}},
		"a unit":        {Vars: impl.MaxVars, Clauses: [][]int64{{50}}},
		"false at once": {Vars: impl.MaxVars, Clauses: [][]int64{{7}, {-7}}},
		"of no literal": {Vars: impl.MaxVars, Clauses: [][]int64{{}}},
	} {
		wantProof(t, what, c, [][]int64{all}, faultAt(1))
		wantProof(t, what+", falling", c, [][]int64{reversed(all)}, faultAt(1))
		wantProof(t, what+", one less", c, [][]int64{all[1:]}, faultAt(1))
		for _, last := range []int64{1, -1, 96, -96, 97, -97, 0} {
			longer := append(slices.Clone(all), last)
			wantProof(t, fmt.Sprint(what, ", one more: ", last), c, [][]int64{longer}, faultAt(0))
			wantProof(t, fmt.Sprint(what, ", one more behind: ", last), c, [][]int64{all, longer, {}}, faultAt(1))
			if impl.LemmaRight(c, [][]int64{longer}, all) || impl.LemmaRight(c, [][]int64{{}, longer}, nil) {
				t.Errorf("%s: lemmas of one more, %d, are right", what, last)
			}
		}
	}
	free := impl.Cnf{Vars: impl.MaxVars}
	wantProof(t, "no clause", free, [][]int64{all}, faultAt(0))
	if !impl.LemmaRight(free, [][]int64{all}, all) || impl.LemmaRight(free, [][]int64{all}, all[1:]) || impl.LemmaRight(free, [][]int64{all}, minus(all)) {
		t.Errorf("from a lemma of MaxVars itself alone follows")
	}
	// A chain of all variables is gone through for a lemma of its ends.
	for _, backward := range []bool{false, true} {
		c := impl.Cnf{Vars: impl.MaxVars, Clauses: chain(impl.MaxVars, backward)}
		wantProof(t, "a chain", c, [][]int64{{-1, 96}, {96, -50}, {-50, 96, 3}, {50}}, faultAt(3))
	}
	for vars := int64(1); vars <= impl.MaxVars; vars++ {
		c := impl.Cnf{Vars: vars, Clauses: [][]int64{{vars}}}
		for _, literal := range []int64{vars + 1, -vars - 1, -vars} {
			wantProof(t, fmt.Sprint(literal, " of ", vars), c, [][]int64{{vars}, {literal}}, faultAt(1))
		}
		wantProof(t, fmt.Sprint("all of ", vars), c, [][]int64{countUp(1, vars)}, faultAt(1))
	}
}

func TestProofOfMaxList(t *testing.T) {
	t.Parallel()
	atOnce := impl.Cnf{Vars: 5, Clauses: [][]int64{{1}, {-1}}}
	oneUnit := impl.Cnf{Vars: 5, Clauses: [][]int64{{4}}}
	tooMany := impl.ProofOut{Code: impl.ErrSize}
	wantProof(t, "MaxList empty ones", atOnce, make([][]int64, impl.MaxList), wholeProof())
	wantProof(t, "MaxList to an empty one", atOnce, append(repeated(impl.MaxList-1, 2, 3), nil), wholeProof())
	wantProof(t, "MaxList, none empty", atOnce, repeated(impl.MaxList, 2), faultAt(impl.MaxList))
	wantProof(t, "MaxList that follow", oneUnit, repeated(impl.MaxList, 4, 5), faultAt(impl.MaxList))
	wantProof(t, "MaxList, the last one does not follow", oneUnit, append(repeated(impl.MaxList-1, 4), []int64{5}), faultAt(impl.MaxList-1))
	wantProof(t, "MaxList, the last one is empty and does not follow", oneUnit, append(repeated(impl.MaxList-1, 4), nil), faultAt(impl.MaxList-1))
	wantProof(t, "MaxList, the last one is not right", atOnce, append(repeated(impl.MaxList-1, 4), []int64{6}), faultAt(impl.MaxList-1))
	wantProof(t, "MaxList, none follows", oneUnit, repeated(impl.MaxList, 3), faultAt(0))
	wantProof(t, "MaxList, none is right", oneUnit, repeated(impl.MaxList, 0), faultAt(0))
	wrong := wrongCnfs()
	for what, c := range map[string]impl.Cnf{"false at once": atOnce, "a unit": oneUnit, "nothing": {}, "not right": wrong["Vars below 0"], "not right, wide": wrong["one more than MaxWide"]} {
		for _, lemmas := range [][][]int64{make([][]int64, impl.MaxList+1), repeated(impl.MaxList+1, 4), repeated(impl.MaxList+1, 0), make([][]int64, 9000)} {
			wantProof(t, what+", too many", c, lemmas, tooMany)
			for _, lemma := range [][]int64{nil, {4}, {0}} {
				if impl.LemmaRight(c, lemmas, lemma) {
					t.Errorf("%s: %v is right behind %d", what, lemma, len(lemmas))
				}
			}
		}
	}
	// So many may stand ahead of a lemma.
	if !impl.LemmaRight(oneUnit, repeated(impl.MaxList, 4), []int64{4, 1}) || !impl.LemmaRight(impl.Cnf{Vars: 5}, append(repeated(impl.MaxList-1, 2), []int64{3}), []int64{3}) {
		t.Errorf("a lemma behind MaxList is not right")
	}
	// A list within the list is not handed in as such, the lemma is: both are not right, however long.
	for _, size := range []int{impl.MaxVars + 1, impl.MaxList, impl.MaxList + 1, 9000} {
		long := make([]int64, size)
		for _, list := range [][]int64{long, countUp(1, int64(size))} {
			wantProof(t, "a long lemma", atOnce, [][]int64{{}, list, {}}, faultAt(1))
			if impl.LemmaRight(atOnce, nil, list) || impl.LemmaRight(atOnce, [][]int64{list}, nil) {
				t.Errorf("a lemma of %d is right", size)
			}
		}
	}
}

func TestProofOfWrongClauses(t *testing.T) {
	refused := impl.ProofOut{Code: impl.ErrForm}
	for what, c := range wrongCnfs() {
		for _, lemmas := range [][][]int64{nil, {}, {{}}, {{1}}, {{1}, {}}, {{0}}, {{1, -1}}, make([][]int64, impl.MaxList), repeated(impl.MaxList, 1)} {
			wantProof(t, what, c, lemmas, refused)
			for _, lemma := range [][]int64{nil, {}, {1}, {0}} {
				if impl.LemmaRight(c, lemmas, lemma) {
					t.Errorf("%s: %v is right", what, lemma)
				}
			}
		}
	}
	for what, c := range rightCnfs() {
		for _, lemmas := range [][][]int64{nil, {{}}, {{1}}, {{1}, {}}, {{0}}} {
			wantProof(t, what, c, lemmas, proofByHand(c, lemmas))
			if got := impl.ProofFault(c, lemmas); got.Code != impl.OK {
				t.Errorf("%s: is refused with %d", what, got.Code)
			}
		}
	}
}

// Lemmas that are not right do not follow, whatever the clauses: each is told at its place.
func TestProofOfWrongLemmas(t *testing.T) {
	t.Parallel()
	for what, c := range map[string]impl.Cnf{
		"no clause":     {Vars: 5},
		"a clause":      {Vars: 5, Clauses: [][]int64{{2, 3}}},
		"of no literal": {Vars: 5, Clauses: [][]int64{{}}},
		"false at once": {Vars: 5, Clauses: [][]int64{{1}, {-1}}},
	} {
		for _, wrong := range append(wrongLiterals(), []int64{5, math.MinInt64}, []int64{math.MinInt64, -math.MaxInt64}) {
			what := fmt.Sprint(what, ", the lemma ", wrong)
			wantProof(t, what, c, [][]int64{wrong}, faultAt(0))
			wantProof(t, what+" ahead", c, [][]int64{wrong, {}}, faultAt(0))
			if c.Clauses != nil && len(c.Clauses[0]) < 2 {
				wantProof(t, what+" behind", c, [][]int64{{2}, {}, wrong}, faultAt(2))
				wantProof(t, what+" in the midst", c, [][]int64{{2}, {}, {3, -4}, wrong, {0}, {}}, faultAt(3))
				wantProof(t, what+" as the last one", c, append(make([][]int64, impl.MaxList-1), wrong), faultAt(impl.MaxList-1))
			}
			if impl.LemmaRight(c, [][]int64{{}}, wrong) || impl.LemmaRight(c, [][]int64{wrong}, nil) || impl.LemmaRight(c, [][]int64{{}, wrong}, []int64{1}) {
				t.Errorf("%s: is right", what)
			}
		}
	}
}

// followOnes: lemmas each of which follows from those ahead, found by trying, up to so many.
func followOnes(random *rand.Rand, c impl.Cnf, most int) [][]int64 {
	lemmas := [][]int64(nil)
	for range 4 * most {
		lemma := fewLiterals(random, c.Vars, 3)
		if len(lemmas) < most && followsByHand(c, lemmas, lemma) {
			lemmas = append(lemmas, lemma)
		}
	}
	return lemmas
}

// proofCase: clauses, and lemmas of which most follow.
func proofCase(random *rand.Rand, vars int64) (impl.Cnf, [][]int64) {
	c, more, _ := unitCase(random, vars)
	c.Clauses = slices.DeleteFunc(c.Clauses, func(clause []int64) bool { return len(clause) == 0 })
	lemmas := followOnes(random, c, random.Intn(12))
	switch random.Intn(6) {
	case 0:
		lemmas = append(lemmas, nil)
	case 1:
		lemmas = append(lemmas, more...)
	case 2:
		lemmas = append(impl.Solve(c, impl.MaxSolve).Lemmas, lemmas...)
	case 3:
		lemmas = impl.Solve(c, impl.MaxSolve).Lemmas
	case 4:
		lemmas = append(impl.Solve(c, impl.MaxSolve).Lemmas, nil)
	}
	return c, lemmas
}

func TestProofByHandOfWhatMayBeWrong(t *testing.T) {
	t.Parallel()
	random := rand.New(rand.NewSource(100))
	codes, kinds := map[int64]int{}, map[string]int{}
	for range 8000 {
		c, lemmas := proofCase(random, random.Int63n(7))
		spoilable := slices.Concat(lemmas, lemmas, c.Clauses)
		if random.Intn(3) == 0 && len(spoilable) > 0 {
			if list := spoilable[random.Intn(len(spoilable))]; len(list) > 0 {
				list[random.Intn(len(list))] = random.Int63n(2*c.Vars+3) - c.Vars - 1
			}
		}
		if random.Intn(4) == 0 && len(lemmas) > 0 {
			at := random.Intn(len(lemmas))
			lemmas = slices.Delete(lemmas, at, at+1)
		}
		want := proofByHand(c, lemmas)
		codes[want.Code]++
		switch {
		case want.Code != impl.OK:
		case want.At == -1:
			kinds["whole"]++
		case want.At == int64(len(lemmas)):
			kinds["not whole"]++
		default:
			kinds["a fault"]++
		}
		wantProof(t, fmt.Sprint(c, " with ", lemmas), c, lemmas, want)
		lemma := fewLiterals(random, max(c.Vars, 0), 4)
		if got := impl.LemmaRight(c, lemmas, lemma); got != lemmaByHand(c, lemmas, lemma) {
			t.Errorf("%v with %v: the lemma %v is told as %v", c, lemmas, lemma, got)
		}
	}
	if codes[impl.ErrForm] < 300 || kinds["whole"] < 500 || kinds["not whole"] < 500 || kinds["a fault"] < 500 {
		t.Errorf("codes are %v, others %v", codes, kinds)
	}
}

// wantPromise14: what Solve says is shown without a run of it.
func wantPromise14(t *testing.T, c impl.Cnf, budget int64) impl.SolveOut {
	t.Helper()
	what := fmt.Sprint(c)
	out := impl.Solve(c, budget)
	if out.Code != impl.OK || out.Steps < 0 || out.Steps > budget {
		t.Errorf("%.400s within %d: the code is %d, in %d steps", what, budget, out.Code, out.Steps)
	}
	switch out.Verdict {
	case impl.Yes:
		if !impl.CnfTrue(c, out.Trues) || clauseFaultByHand(c, out.Trues) != -1 {
			t.Errorf("%.400s within %d: %v do not make it true", what, budget, out.Trues)
		}
	case impl.No:
		wantProof(t, what+", its No", c, out.Lemmas, wholeProof())
	case impl.Unknown:
		if out.Steps != budget {
			t.Errorf("%.400s within %d: Unknown in %d steps", what, budget, out.Steps)
		}
	default:
		t.Errorf("%.400s within %d: the verdict is %d", what, budget, out.Verdict)
	}
	return out
}

// wantPromise15: each lemma that is kept follows, whatever the verdict.
func wantPromise15(t *testing.T, c impl.Cnf, out impl.SolveOut) {
	t.Helper()
	what := fmt.Sprint(c)
	for at, lemma := range out.Lemmas {
		if !impl.LemmaRight(c, out.Lemmas[:at], lemma) || !followsByHand(c, out.Lemmas[:at], lemma) {
			t.Errorf("%.400s: the lemma at %d of %v does not follow", what, at, out.Lemmas)
		}
	}
	if out.Verdict != impl.No {
		wantProof(t, what+", its lemmas", c, out.Lemmas, faultAt(len(out.Lemmas)))
	}
}

// Promises 14 and 15, of clauses of any kind and budgets of all sizes.
func TestWhatTheSolverSaysIsShown(t *testing.T) {
	t.Parallel()
	random := rand.New(rand.NewSource(1415))
	counts := map[int64]int{}
	withLemmas := map[int64]int{}
	for i := range 1200 {
		c := solveCase(random, i)
		budget := int64(impl.MaxSolve)
		if i%2 == 0 {
			budget = random.Int63n(1 + random.Int63n(impl.MaxSolve+1))
		}
		out := wantPromise14(t, c, budget)
		wantPromise15(t, c, out)
		counts[out.Verdict]++
		if len(out.Lemmas) > 1 {
			withLemmas[out.Verdict]++
		}
	}
	for _, verdict := range []int64{impl.Yes, impl.No, impl.Unknown} {
		if counts[verdict] < 100 || withLemmas[verdict] < 40 {
			t.Errorf("verdicts are %v, with lemmas %v", counts, withLemmas)
		}
	}
}

// Promises 14 and 15, of clauses at the edges, within each budget.
func TestWhatTheSolverSaysAtTheEdgesIsShown(t *testing.T) {
	t.Parallel()
	cases := map[string]impl.Cnf{
		"all signs of 2": {Vars: 2, Clauses: allSigns(2)},
		"all signs of 5": {Vars: 5, Clauses: allSigns(5)},
		"a crowd of 3":   crowdIn(3),
		"a crowd of 5":   crowdIn(5),
		"a No in 299":    noInSteps(impl.MaxSolve - 1),
		"a Yes in 300":   yesInSteps(impl.MaxSolve),
		"a Yes in 301":   yesInSteps(impl.MaxSolve + 1),
	}
	for what, c := range rightCnfs() {
		cases[what] = c
	}
	for what, c := range cases {
		for _, budget := range []int64{0, 1, 2, 3, 7, 50, impl.MaxSolve - 1, impl.MaxSolve} {
			wantPromise14(t, c, budget)
		}
		wantPromise15(t, c, impl.Solve(c, impl.MaxSolve))
		wantPromise15(t, c, impl.Solve(c, 20))
		if t.Failed() {
			t.Fatalf("%s: is not shown", what)
		}
	}
	if out := impl.Solve(cases["a No in 299"], impl.MaxSolve); out.Verdict != impl.No || len(out.Lemmas) != 150 {
		t.Errorf("a No in 299 steps: the verdict is %d with %d lemmas", out.Verdict, len(out.Lemmas))
	}
}

// Promises 14 and 15, of the clauses of stations.
func TestWhatTheSolverSaysOfStationsIsShown(t *testing.T) {
	random := rand.New(rand.NewSource(1514))
	counts := map[int64]int{}
	for range 300 {
		table := crowdedTable(random, 2+random.Intn(impl.MaxStations-1))
		ids := someOf(random, idsByHand(table))
		c := impl.CnfOf(table, int64(2+random.Intn(8)), ids)
		out := wantPromise14(t, c, impl.MaxSolve)
		wantPromise15(t, c, out)
		counts[out.Verdict]++
	}
	if counts[impl.Yes] < 50 || counts[impl.No] < 50 {
		t.Errorf("verdicts are %v", counts)
	}
}

// Promise 15: what follows is so in all that makes the clauses true; where there is such, nothing is a whole proof.
func TestTrueClausesHaveNoWholeProof(t *testing.T) {
	t.Parallel()
	random := rand.New(rand.NewSource(15))
	canBeTrue, wholeOnes, followed := 0, 0, 0
	for range 3000 {
		c, lemmas := proofCase(random, random.Int63n(7))
		lemmas = append(lemmas, nil)
		out := impl.ProofFault(c, lemmas)
		for _, trues := range eachTrues(c.Vars) {
			if clauseFaultByHand(c, trues) != -1 {
				continue
			}
			canBeTrue++
			if out.Code != impl.OK || out.At < 0 || out.At >= int64(len(lemmas)) || impl.ProofRight(c, lemmas) || len(impl.ProofCut(c, lemmas)) > 0 {
				t.Fatalf("%v with %v: got %+v, but %v make it true", c, lemmas, out, trues)
			}
			if place := clauseFaultByHand(impl.Cnf{Vars: c.Vars, Clauses: lemmas[:out.At]}, trues); place != -1 {
				t.Errorf("%v: %v follows, but %v make all clauses true", c, lemmas[place], trues)
			}
			followed += int(out.At)
		}
		if out.At == -1 {
			wholeOnes++
		}
	}
	if canBeTrue < 1000 || wholeOnes < 200 || followed < 1000 {
		t.Errorf("%d can be true, %d whole proofs, %d follow", canBeTrue, wholeOnes, followed)
	}
}

// A proof of which one lemma is gone, or one literal is turned round, is told as what it is then.
func TestProofThatIsSpoiled(t *testing.T) {
	random := rand.New(rand.NewSource(151515))
	kinds := map[bool]int{}
	for _, c := range []impl.Cnf{{Vars: 3, Clauses: allSigns(3)}, {Vars: 5, Clauses: allSigns(5)}, crowdIn(3), noInSteps(31), hardCase(random, 12), hardCase(random, 14)} {
		proof := impl.Solve(c, impl.MaxSolve).Lemmas
		for at, lemma := range proof {
			shorter := slices.Delete(slices.Clone(proof), at, at+1)
			want := proofByHand(c, shorter)
			kinds[want.At == -1]++
			wantProof(t, fmt.Sprint(c, " without the lemma at ", at), c, shorter, want)
			if len(lemma) == 0 {
				continue
			}
			other := slices.Clone(proof)
			other[at] = slices.Clone(lemma)
			other[at][len(lemma)-1] *= -1
			want = proofByHand(c, other)
			kinds[want.At == -1]++
			wantProof(t, fmt.Sprint(c, " with another lemma at ", at), c, other, want)
		}
	}
	if kinds[false] < 20 || kinds[true] < 5 {
		t.Errorf("whole proofs are %v", kinds)
	}
}

// A call that has the most to do: each lemma leads through a long chain, ahead of which stand many wide clauses.
func TestProofOfTheMostThereIs(t *testing.T) {
	t.Parallel()
	c := impl.Cnf{Vars: impl.MaxVars, Clauses: repeated(impl.MaxClauses-96, append(countUp(-15, -1), 96)...)}
	c.Clauses = append(c.Clauses, chain(impl.MaxVars, true)...)
	c.Clauses = append(c.Clauses, []int64{-95, -94})
	for _, p := range []struct {
		lemmas [][]int64
		want   impl.ProofOut
	}{
		{repeated(impl.MaxList, -1), faultAt(impl.MaxList)},
		{append(repeated(impl.MaxList-1, -1), nil), faultAt(impl.MaxList - 1)},
		{repeated(impl.MaxList, append(countUp(-96, -17), -1)...), faultAt(impl.MaxList)},
	} {
		if got := impl.ProofFault(c, p.lemmas); got != p.want {
			t.Errorf("the most there is: got %+v, want %+v", got, p.want)
		}
	}
}

// goroutinesBut waits a little for those that are about to end.
func goroutinesBut(most int) int {
	for range 2000 {
		if runtime.NumGoroutine() <= most {
			break
		}
		time.Sleep(time.Millisecond)
	}
	return runtime.NumGoroutine()
}

// Calls that are done with their lemmas early, or late, leave no goroutine behind.
func TestProofLeavesNoGoroutine(t *testing.T) {
	c := impl.Cnf{Vars: 2, Clauses: allSigns(2)}
	early := append([][]int64{{}}, repeated(impl.MaxList-1, -1)...)
	midst := append([][]int64{{-1}, {}, {0}}, repeated(impl.MaxList-3, -1)...)
	late := append(repeated(impl.MaxList-1, -1), nil)
	before := runtime.NumGoroutine()
	for _, lemmas := range [][][]int64{nil, {{}}, early, midst, late, late[1:], make([][]int64, impl.MaxList+1), {{-1}, {0}}, {{-1}, {}}} {
		for _, clauses := range []impl.Cnf{c, {Vars: 2}, {Vars: -1}} {
			for range 50 {
				impl.ProofFault(clauses, lemmas)
				impl.ProofRight(clauses, lemmas)
				impl.ProofCut(clauses, lemmas)
				impl.LemmaRight(clauses, lemmas, nil)
			}
		}
		if after := goroutinesBut(before); after > before {
			t.Fatalf("%.100s: %d goroutines, there were %d", fmt.Sprint(lemmas), after, before)
		}
	}
}

func TestProofKeepsNothing(t *testing.T) {
	t.Parallel()
	random := rand.New(rand.NewSource(101))
	c := impl.Cnf{Vars: 5, Clauses: allSigns(5)}
	proof := impl.Solve(c, impl.MaxSolve).Lemmas
	for range 200 {
		other, lemmas := proofCase(random, random.Int63n(12))
		impl.ProofCut(other, lemmas)
		impl.LemmaRight(other, lemmas, []int64{1})
		impl.ProofFault(c, [][]int64{{0}, {9}})
		wantProof(t, "again", c, proof, wholeProof())
		wantProof(t, "again, one less", c, proof[1:], proofByHand(c, proof[1:]))
	}
}

// A call in each of some goroutines at the same time answers what it answers alone.
func TestProofsAtTheSameTime(t *testing.T) {
	random := rand.New(rand.NewSource(103))
	c, lemmas := proofCase(random, 6)
	own := impl.Cnf{Vars: 4, Clauses: allSigns(4)}
	proof := impl.Solve(own, impl.MaxSolve).Lemmas
	answers := make(chan [2]impl.ProofOut)
	for range 20 {
		go func() { answers <- [2]impl.ProofOut{impl.ProofFault(c, lemmas), impl.ProofFault(own, proof)} }()
	}
	for range 20 {
		if got := <-answers; got != [2]impl.ProofOut{proofByHand(c, lemmas), wholeProof()} {
			t.Errorf("at the same time: got %+v", got)
		}
	}
}

func TestProofChangesAndSharesNothing(t *testing.T) {
	random := rand.New(rand.NewSource(102))
	cutOnes := 0
	for i := range 1500 {
		c, lemmas := proofCase(random, random.Int63n(7))
		if i%2 == 0 {
			c = hardCase(random, 3+random.Intn(6))
			lemmas = append(impl.Solve(c, impl.MaxSolve).Lemmas, nil, nil)
		}
		if i%7 == 0 {
			lemmas = append(lemmas, []int64{0, 1})
		}
		own, lists := roomyCnf(c), roomyCnf(impl.Cnf{Clauses: lemmas})
		lemma := roomyIds(fewLiterals(random, c.Vars, 3))
		clausesBefore, listsBefore, lemmaBefore := allOfCnf(own), allOfCnf(lists), slices.Clone(lemma[:cap(lemma)])
		impl.LemmaRight(own, lists.Clauses, lemma)
		impl.ProofRight(own, lists.Clauses)
		impl.ProofFault(own, lists.Clauses)
		first, second, third := impl.ProofCut(own, lists.Clauses), impl.ProofCut(own, lists.Clauses), impl.ProofCut(own, lists.Clauses)
		want := cutByHand(lemmas, proofByHand(c, lemmas))
		if len(want) > 1 {
			cutOnes++
		}
		spoilsApart(t, "what is cut", first, want)
		// From the last one on, too: one that is spoiled might reach ahead.
		slices.Reverse(second)
		back := slices.Clone(want)
		slices.Reverse(back)
		spoilsApart(t, "what is cut, the last one first", second, back)
		clear(second[:cap(second)])
		if !slices.EqualFunc(allOfCnf(own), clausesBefore, slices.Equal[[]int64]) || !slices.EqualFunc(allOfCnf(lists), listsBefore, slices.Equal[[]int64]) ||
			!slices.Equal(lemma[:cap(lemma)], lemmaBefore) || own.Vars != c.Vars {
			t.Errorf("%.400s: what was handed in is changed, or the answer shares its memory", fmt.Sprint(c, lemmas))
		}
		for _, list := range append(own.Clauses, lists.Clauses...) {
			spoilNumbers(list)
		}
		clear(lists.Clauses[:cap(lists.Clauses)])
		if !slices.EqualFunc(third, want, slices.Equal[[]int64]) {
			t.Errorf("%.400s: two answers share memory, or one with what was handed in", fmt.Sprint(c, lemmas))
		}
	}
	if cutOnes < 100 {
		t.Errorf("%d are cut", cutOnes)
	}
}
