/-
  Layer 21: the library's sort at steps, laid at this program; the contract of sorted.
-/
import Derived.Test.YtkohdiajpdlkjaaAe
import Derived.Shelf.SlSortCmp.WholeK
set_option maxRecDepth 100000
namespace Go.Proofs.Ytkohdiajpdlkjaa
open Go.RowKit Go.Shelf

def rhoS : Ren := ⟨fun n => [0, 0, 0, 0, 0, 0, 38, 0, 0, 0, 0, 0, 0, 0, 44, 45, 0, 0, 0, 0, 47, 48, 49, 50, 51, 52, 53, 54, 55, 56, 0, 0, 0, 0, 0, 0, 0, 0, 0, 0, 0, 0, 0, 0, 0, 0, 57, 58, 59, 60, 61, 0, 0, 0, 0, 0, 0, 62].getD n 0, fun n => [0, 1, 2, 3, 4, 5, 6, 7, 8, 9, 10, 11, 12, 13, 14, 15, 16, 17, 18, 19, 20, 21, 47, 63, 55, 58, 0, 25, 0, 64, 0, 0, 0, 0, 0, 0, 0, 66, 67, 68, 0, 0, 61, 0, 69, 70, 71, 72, 73, 74, 75, 76, 77, 78, 79, 80, 0, 0, 0, 0, 0, 0, 0, 0, 0, 0, 81, 82, 83, 84, 85, 86, 0, 0, 0, 0, 87, 88, 89, 0, 0, 90, 91, 92, 93, 94, 95, 96, 97, 98, 99, 100, 101, 102, 103, 104, 105].getD n 0, fun n => n⟩
set_option maxHeartbeats 4000000 in
theorem sort_lays : Go.Proofs.SlLaysF0.n6 Try.prog rhoS where
  mixed := by kernel_rfl
  f6 := ⟨(Try.f38).name, by kernel_rfl, Try.func38.trans (congrArg some (by kernel_rfl))⟩
  f14 := ⟨(Try.f44).name, by kernel_rfl, Try.func44.trans (congrArg some (by kernel_rfl))⟩
  f15 := Try.func45.trans (congrArg some (by kernel_rfl))
  f20 := ⟨(Try.f47).name, by kernel_rfl, Try.func47.trans (congrArg some (by kernel_rfl))⟩
  f21 := ⟨(Try.f48).name, by kernel_rfl, Try.func48.trans (congrArg some (by kernel_rfl))⟩
  f22 := ⟨(Try.f49).name, by kernel_rfl, Try.func49.trans (congrArg some (by kernel_rfl))⟩
  f23 := ⟨(Try.f50).name, by kernel_rfl, Try.func50.trans (congrArg some (by kernel_rfl))⟩
  f24 := ⟨(Try.f51).name, by kernel_rfl, Try.func51.trans (congrArg some (by kernel_rfl))⟩
  f25 := ⟨(Try.f52).name, by kernel_rfl, Try.func52.trans (congrArg some (by kernel_rfl))⟩
  f26 := ⟨(Try.f53).name, by kernel_rfl, Try.func53.trans (congrArg some (by kernel_rfl))⟩
  f27 := ⟨(Try.f54).name, by kernel_rfl, Try.func54.trans (congrArg some (by kernel_rfl))⟩
  f28 := Try.func55.trans (congrArg some (by kernel_rfl))
  f29 := Try.func56.trans (congrArg some (by kernel_rfl))
  f46 := ⟨(Try.f57).name, by kernel_rfl, Try.func57.trans (congrArg some (by kernel_rfl))⟩
  f47 := Try.func58.trans (congrArg some (by kernel_rfl))
  f48 := Try.func59.trans (congrArg some (by kernel_rfl))
  f49 := ⟨(Try.f60).name, by kernel_rfl, Try.func60.trans (congrArg some (by kernel_rfl))⟩
  f50 := ⟨(Try.f61).name, by kernel_rfl, Try.func61.trans (congrArg some (by kernel_rfl))⟩
  f57 := ⟨(Try.f62).name, by kernel_rfl, Try.func62.trans (congrArg some (by kernel_rfl))⟩
  t0 := Try.underlying0
  a0 := Try.isAgg0
  z0 := Try.sizeOf0
  v0 := Try.zeroValue0
  t3 := Try.underlying3
  a3 := Try.isAgg3
  z3 := Try.sizeOf3
  v3 := Try.zeroValue3
  t4 := Try.underlying4
  a4 := Try.isAgg4
  z4 := Try.sizeOf4
  v4 := Try.zeroValue4
  t5 := Try.underlying5
  a5 := Try.isAgg5
  z5 := Try.sizeOf5
  v5 := Try.zeroValue5
  t9 := Try.underlying9
  a9 := Try.isAgg9
  z9 := Try.sizeOf9
  v9 := Try.zeroValue9
  t22 := Try.underlying47
  a22 := Try.isAgg47
  z22 := Try.sizeOf47
  v22 := Try.zeroValue47
  t25 := Try.underlying58
  a25 := Try.isAgg58
  z25 := Try.sizeOf58
  v25 := Try.zeroValue58
  t39 := Try.underlying68
  a39 := Try.isAgg68
  z39 := Try.sizeOf68
  v39 := Try.zeroValue68
  t45 := Try.underlying70
  a45 := Try.isAgg70
  z45 := Try.sizeOf70
  v45 := Try.zeroValue70
  t46 := Try.underlying71
  a46 := Try.isAgg71
  z46 := Try.sizeOf71
  v46 := Try.zeroValue71
  t50 := Try.underlying75
  a50 := Try.isAgg75
  z50 := Try.sizeOf75
  v50 := Try.zeroValue75
  t53 := Try.underlying78
  a53 := Try.isAgg78
  z53 := Try.sizeOf78
  v53 := Try.zeroValue78
  t55 := Try.underlying80
  a55 := Try.isAgg80
  z55 := Try.sizeOf80
  v55 := Try.zeroValue80
  t66 := Try.underlying81
  a66 := Try.isAgg81
  z66 := Try.sizeOf81
  v66 := Try.zeroValue81
  t70 := Try.underlying85
  a70 := Try.isAgg85
  z70 := Try.sizeOf85
  v70 := Try.zeroValue85
  t76 := Try.underlying87
  a76 := Try.isAgg87
  z76 := Try.sizeOf87
  v76 := Try.zeroValue87
  t77 := Try.underlying88
  a77 := Try.isAgg88
  z77 := Try.sizeOf88
  v77 := Try.zeroValue88
end Go.Proofs.Ytkohdiajpdlkjaa
