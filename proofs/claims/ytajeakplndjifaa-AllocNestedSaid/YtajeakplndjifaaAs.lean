/-
  Layer 21: the library's sort at steps, laid at this program; the contract of sorted.
-/
import Derived.Test.YtajeakplndjifaaAe
import Derived.Shelf.SlSortCmp.WholeK
set_option maxRecDepth 100000
namespace Go.Proofs.Ytajeakplndjifaa
open Go.RowKit Go.Shelf

def rhoS : Ren := ⟨fun n => [0, 0, 0, 0, 0, 0, 41, 0, 0, 0, 0, 0, 0, 0, 47, 48, 0, 0, 0, 0, 50, 51, 52, 53, 54, 55, 56, 57, 58, 59, 0, 0, 0, 0, 0, 0, 0, 0, 0, 0, 0, 0, 0, 0, 0, 0, 60, 61, 62, 63, 64, 0, 0, 0, 0, 0, 0, 65].getD n 0, fun n => [0, 1, 2, 3, 4, 5, 6, 7, 8, 9, 10, 11, 12, 13, 14, 15, 16, 17, 18, 19, 20, 21, 49, 65, 57, 60, 0, 23, 0, 66, 0, 0, 0, 0, 0, 0, 0, 68, 69, 70, 0, 0, 61, 0, 71, 72, 73, 74, 75, 76, 77, 78, 79, 80, 81, 82, 0, 0, 0, 0, 0, 0, 0, 0, 0, 0, 83, 84, 85, 86, 87, 88, 0, 0, 0, 0, 89, 90, 91, 0, 0, 92, 93, 94, 95, 96, 97, 98, 99, 100, 101, 102, 103, 104, 105, 106, 107].getD n 0, fun n => n⟩
set_option maxHeartbeats 4000000 in
theorem sort_lays : Go.Proofs.SlLaysF0.n6 Try.prog rhoS where
  mixed := by kernel_rfl
  f6 := ⟨(Try.f41).name, by kernel_rfl, Try.func41.trans (congrArg some (by kernel_rfl))⟩
  f14 := ⟨(Try.f47).name, by kernel_rfl, Try.func47.trans (congrArg some (by kernel_rfl))⟩
  f15 := Try.func48.trans (congrArg some (by kernel_rfl))
  f20 := ⟨(Try.f50).name, by kernel_rfl, Try.func50.trans (congrArg some (by kernel_rfl))⟩
  f21 := ⟨(Try.f51).name, by kernel_rfl, Try.func51.trans (congrArg some (by kernel_rfl))⟩
  f22 := ⟨(Try.f52).name, by kernel_rfl, Try.func52.trans (congrArg some (by kernel_rfl))⟩
  f23 := ⟨(Try.f53).name, by kernel_rfl, Try.func53.trans (congrArg some (by kernel_rfl))⟩
  f24 := ⟨(Try.f54).name, by kernel_rfl, Try.func54.trans (congrArg some (by kernel_rfl))⟩
  f25 := ⟨(Try.f55).name, by kernel_rfl, Try.func55.trans (congrArg some (by kernel_rfl))⟩
  f26 := ⟨(Try.f56).name, by kernel_rfl, Try.func56.trans (congrArg some (by kernel_rfl))⟩
  f27 := ⟨(Try.f57).name, by kernel_rfl, Try.func57.trans (congrArg some (by kernel_rfl))⟩
  f28 := Try.func58.trans (congrArg some (by kernel_rfl))
  f29 := Try.func59.trans (congrArg some (by kernel_rfl))
  f46 := ⟨(Try.f60).name, by kernel_rfl, Try.func60.trans (congrArg some (by kernel_rfl))⟩
  f47 := Try.func61.trans (congrArg some (by kernel_rfl))
  f48 := Try.func62.trans (congrArg some (by kernel_rfl))
  f49 := ⟨(Try.f63).name, by kernel_rfl, Try.func63.trans (congrArg some (by kernel_rfl))⟩
  f50 := ⟨(Try.f64).name, by kernel_rfl, Try.func64.trans (congrArg some (by kernel_rfl))⟩
  f57 := ⟨(Try.f65).name, by kernel_rfl, Try.func65.trans (congrArg some (by kernel_rfl))⟩
  t0 := Try.underlying0
  a0 := Try.isAgg0
  z0 := Try.sizeOf0
  v0 := Try.zeroValue0
  t3 := Try.underlying3
  a3 := Try.isAgg3
  z3 := Try.sizeOf3
  v3 := Try.zeroValue3
  t4 := Try.underlying4
  a4 := Try.isAgg4
  z4 := Try.sizeOf4
  v4 := Try.zeroValue4
  t5 := Try.underlying5
  a5 := Try.isAgg5
  z5 := Try.sizeOf5
  v5 := Try.zeroValue5
  t9 := Try.underlying9
  a9 := Try.isAgg9
  z9 := Try.sizeOf9
  v9 := Try.zeroValue9
  t22 := Try.underlying49
  a22 := Try.isAgg49
  z22 := Try.sizeOf49
  v22 := Try.zeroValue49
  t25 := Try.underlying60
  a25 := Try.isAgg60
  z25 := Try.sizeOf60
  v25 := Try.zeroValue60
  t39 := Try.underlying70
  a39 := Try.isAgg70
  z39 := Try.sizeOf70
  v39 := Try.zeroValue70
  t45 := Try.underlying72
  a45 := Try.isAgg72
  z45 := Try.sizeOf72
  v45 := Try.zeroValue72
  t46 := Try.underlying73
  a46 := Try.isAgg73
  z46 := Try.sizeOf73
  v46 := Try.zeroValue73
  t50 := Try.underlying77
  a50 := Try.isAgg77
  z50 := Try.sizeOf77
  v50 := Try.zeroValue77
  t53 := Try.underlying80
  a53 := Try.isAgg80
  z53 := Try.sizeOf80
  v53 := Try.zeroValue80
  t55 := Try.underlying82
  a55 := Try.isAgg82
  z55 := Try.sizeOf82
  v55 := Try.zeroValue82
  t66 := Try.underlying83
  a66 := Try.isAgg83
  z66 := Try.sizeOf83
  v66 := Try.zeroValue83
  t70 := Try.underlying87
  a70 := Try.isAgg87
  z70 := Try.sizeOf87
  v70 := Try.zeroValue87
  t76 := Try.underlying89
  a76 := Try.isAgg89
  z76 := Try.sizeOf89
  v76 := Try.zeroValue89
  t77 := Try.underlying90
  a77 := Try.isAgg90
  z77 := Try.sizeOf90
  v77 := Try.zeroValue90
end Go.Proofs.Ytajeakplndjifaa
