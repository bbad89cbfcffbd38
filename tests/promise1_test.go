package tests

import (
	"reflect"
	"sync"
	"testing"

	"loop.example/g00920/impl"
)

// TestFirstUseTogether comes first in this file, so that no earlier test has made Choose and MakeField fill their tables.
func TestFirstUseTogether(t *testing.T) {
	results := make([][]int64, 8)
	fields := make([][]impl.Field, 8)
	var group sync.WaitGroup
	for i := range results {
		group.Add(1)
		go func() {
			defer group.Done()
			for k := int64(-1); k <= impl.MaxPoints+1; k++ {
				results[i] = append(results[i], impl.Choose(impl.MaxPoints, k))
			}
			for q := int64(0); q <= impl.MaxField+1; q++ {
				f, _ := impl.MakeField(q)
				fields[i] = append(fields[i], f)
			}
		}()
	}
	group.Wait()
	for i := range results {
		if !reflect.DeepEqual(results[i], results[0]) {
			t.Errorf("Choose: caller %d got %v, caller 0 got %v", i, results[i], results[0])
		}
		if !reflect.DeepEqual(fields[i], fields[0]) {
			t.Errorf("MakeField: caller %d got %v, caller 0 got %v", i, fields[i], fields[0])
		}
	}
}

// TestPurity checks promise 1: every function returns, changes no argument, and repeats its results.
func TestPurity(t *testing.T) {
	functions := map[string]any{
		"CodeName": impl.CodeName, "IsName": impl.IsName, "Decimal": impl.Decimal, "ReadDecimal": impl.ReadDecimal,
		"SplitWords": impl.SplitWords, "ListText": impl.ListText, "ReadList": impl.ReadList, "Crc16": impl.Crc16,
		"ValidSet": impl.ValidSet, "UnionSets": impl.UnionSets, "MeetSets": impl.MeetSets, "MinusSets": impl.MinusSets,
		"CompareLists": impl.CompareLists, "Choose": impl.Choose, "RankSubset": impl.RankSubset,
		"UnrankSubset": impl.UnrankSubset, "NextSubset": impl.NextSubset,
		"Gcd": impl.Gcd, "PowerMod": impl.PowerMod, "InverseMod": impl.InverseMod, "IsPrime": impl.IsPrime,
		"FactorsOf": impl.FactorsOf, "PrimePower": impl.PrimePower, "OrderMod": impl.OrderMod,
		"PrimitiveRoot": impl.PrimitiveRoot, "IsSquareMod": impl.IsSquareMod, "SquaresMod": impl.SquaresMod,
		"SolveChinese": impl.SolveChinese,
		"FieldOrders":  impl.FieldOrders, "MakeField": impl.MakeField, "ValidField": impl.ValidField, "SameField": impl.SameField,
		"FieldSize": impl.FieldSize, "FieldAdd": impl.FieldAdd, "FieldSub": impl.FieldSub, "FieldMul": impl.FieldMul,
		"FieldInverse": impl.FieldInverse, "FieldPower": impl.FieldPower, "FieldOrder": impl.FieldOrder,
		"PrimitiveElement": impl.PrimitiveElement, "LogTable": impl.LogTable, "FieldTrace": impl.FieldTrace, "FieldSquares": impl.FieldSquares,
		"ValidPermutation": impl.ValidPermutation, "IdentityPermutation": impl.IdentityPermutation, "Compose": impl.Compose,
		"InvertPermutation": impl.InvertPermutation, "PowerPermutation": impl.PowerPermutation, "CyclesOf": impl.CyclesOf,
		"PermutationOfCycles": impl.PermutationOfCycles, "CycleType": impl.CycleType, "OrderOfPermutation": impl.OrderOfPermutation,
		"SignOf": impl.SignOf, "ApplySet": impl.ApplySet, "RankPermutation": impl.RankPermutation, "UnrankPermutation": impl.UnrankPermutation,
		"MakeGroup": impl.MakeGroup, "ValidGroup": impl.ValidGroup, "SameGroup": impl.SameGroup, "GroupHas": impl.GroupHas, "OrbitOf": impl.OrbitOf,
		"OrbitsOf": impl.OrbitsOf, "StabilizerOf": impl.StabilizerOf, "SetStabilizer": impl.SetStabilizer, "GeneratorsOf": impl.GeneratorsOf,
		"CosetsOf": impl.CosetsOf, "BurnsideCount": impl.BurnsideCount,
		"ValidSquare": impl.ValidSquare, "SameSquare": impl.SameSquare, "CyclicSquare": impl.CyclicSquare, "ProductSquare": impl.ProductSquare,
		"Conjugate": impl.Conjugate, "Isotope": impl.Isotope, "IsReduced": impl.IsReduced, "ReducedSquare": impl.ReducedSquare,
		"SymbolColumns": impl.SymbolColumns, "SquareText": impl.SquareText, "ReadSquare": impl.ReadSquare,
		"FieldSquare": impl.FieldSquare, "FieldMols": impl.FieldMols, "Orthogonal": impl.Orthogonal, "ValidMols": impl.ValidMols, "Superpose": impl.Superpose,
		"ProductMols": impl.ProductMols, "IsTransversal": impl.IsTransversal, "TransversalsOf": impl.TransversalsOf,
		"TransversalsOfMate": impl.TransversalsOfMate, "MateOf": impl.MateOf,
		"IdentityName": impl.IdentityName, "IdentitiesOf": impl.IdentitiesOf, "UnitOf": impl.UnitOf, "IsGroupBased": impl.IsGroupBased,
		"QuadranglesHold": impl.QuadranglesHold, "ClosureIn": impl.ClosureIn, "IsSubsquare": impl.IsSubsquare, "IntercalatesOf": impl.IntercalatesOf,
		"SwitchIntercalate": impl.SwitchIntercalate, "RowMap": impl.RowMap, "ParitiesOf": impl.ParitiesOf,
		"ValidPartial": impl.ValidPartial, "FilledCells": impl.FilledCells, "ClearCells": impl.ClearCells, "CandidatesAt": impl.CandidatesAt,
		"FillCell": impl.FillCell, "PropagatePartial": impl.PropagatePartial, "CompletePartial": impl.CompletePartial,
		"CountCompletions": impl.CountCompletions, "ExtendRectangle": impl.ExtendRectangle, "IsCritical": impl.IsCritical,
		"PartialText": impl.PartialText, "ReadPartial": impl.ReadPartial,
		"ValidDesign": impl.ValidDesign, "SameDesign": impl.SameDesign, "SortDesign": impl.SortDesign, "ReplicationsOf": impl.ReplicationsOf,
		"PairCounts": impl.PairCounts, "ParametersOf": impl.ParametersOf, "MeetingsOf": impl.MeetingsOf, "ComplementDesign": impl.ComplementDesign,
		"DualDesign": impl.DualDesign, "DerivedDesign": impl.DerivedDesign, "ResidualDesign": impl.ResidualDesign, "SumDesigns": impl.SumDesigns,
		"RelabelDesign": impl.RelabelDesign, "IncidenceMatrix": impl.IncidenceMatrix, "DesignOfMatrix": impl.DesignOfMatrix,
		"TripleOrders": impl.TripleOrders, "MakeTriples": impl.MakeTriples, "IsTripleSystem": impl.IsTripleSystem, "ThirdPoint": impl.ThirdPoint,
		"TripleSquare": impl.TripleSquare, "TriplesOfSquare": impl.TriplesOfSquare, "TripleLoop": impl.TripleLoop, "CyclesOfPair": impl.CyclesOfPair,
		"PaschsOf": impl.PaschsOf, "SwitchPasch": impl.SwitchPasch, "ProductTriples": impl.ProductTriples,
		"AffineOrder": impl.AffineOrder, "ProjectiveOrder": impl.ProjectiveOrder, "AffinePlane": impl.AffinePlane, "ProjectivePlane": impl.ProjectivePlane,
		"ParallelClasses": impl.ParallelClasses, "CompletePlane": impl.CompletePlane, "RemoveLine": impl.RemoveLine, "LineThrough": impl.LineThrough,
		"PlaneOfMols": impl.PlaneOfMols, "MolsOfPlane": impl.MolsOfPlane, "IsArc": impl.IsArc,
		"DifferenceTable": impl.DifferenceTable, "FamilyLambda": impl.FamilyLambda, "DevelopFamily": impl.DevelopFamily, "TranslateSet": impl.TranslateSet,
		"MultiplySet": impl.MultiplySet, "NormalSet": impl.NormalSet, "PaleySet": impl.PaleySet, "MultipliersOf": impl.MultipliersOf,
		"FirstDifferenceSet": impl.FirstDifferenceSet, "SingerSet": impl.SingerSet, "IsCyclicDesign": impl.IsCyclicDesign,
	}
	for name, f := range functions {
		t.Run(name, func(t *testing.T) {
			t.Parallel()
			checkPure(t, name, f)
		})
	}
}

// TestFailuresReturnZeros checks that no value stands beside a code other than OK or beside false.
func TestFailuresReturnZeros(t *testing.T) {
	for _, list := range wildLists(2) {
		for _, n := range wildNumbers(2) {
			if rank, code := impl.RankSubset(n, list); code != impl.OK {
				failed(t, "RankSubset", code, impl.ErrInvalid, rank)
			}
			if next, ok := impl.NextSubset(n, list); !ok {
				failed(t, "NextSubset", 0, 0, next)
			}
		}
	}
	for _, s := range wildStrings() {
		if n, ok := impl.ReadDecimal(s); !ok {
			failed(t, "ReadDecimal", 0, 0, n)
		}
		if list, ok := impl.ReadList(s); !ok {
			failed(t, "ReadList", 0, 0, list)
		}
		if a, ok := impl.ReadSquare(s); !ok {
			failed(t, "ReadSquare", 0, 0, a)
		}
		if p, ok := impl.ReadPartial(s); !ok {
			failed(t, "ReadPartial", 0, 0, p)
		}
	}
}
