/-
  Layer 15: the number of bit planes.
-/
import Derived.Test.YtbhjapgioaiocaaDoorEk
import Derived.Shelf.Strconv.Itoa0
set_option maxRecDepth 100000
namespace Go.Proofs.YtbhjapgioaiocaaDoor
open Go.RowKit

theorem len_lays : Lays.n129 Tryd.prog ⟨fun _ => 71, fun n => if n = 3 then 3 else if n = 4 then 4 else if n = 5 then 5 else if n = 9 then 9 else if n = 46 then 55 else 97, fun n => n⟩ where
  mixed := by kernel_rfl
  f129 := Tryd.func71.trans (congrArg some (by kernel_rfl))
  t3 := Tryd.underlying3
  a3 := Tryd.isAgg3
  z3 := Tryd.sizeOf3
  v3 := Tryd.zeroValue3
  t4 := Tryd.underlying4
  a4 := Tryd.isAgg4
  z4 := Tryd.sizeOf4
  v4 := Tryd.zeroValue4
  t5 := Tryd.underlying5
  a5 := Tryd.isAgg5
  z5 := Tryd.sizeOf5
  v5 := Tryd.zeroValue5
  t9 := Tryd.underlying9
  a9 := Tryd.isAgg9
  z9 := Tryd.sizeOf9
  v9 := Tryd.zeroValue9
  t46 := Tryd.underlying55
  a46 := Tryd.isAgg55
  z46 := Tryd.sizeOf55
  v46 := Tryd.zeroValue55
  t53 := Tryd.underlying97
  a53 := Tryd.isAgg97
  z53 := Tryd.sizeOf97
  v53 := Tryd.zeroValue97
theorem len_q (x : Int) (w : World) (h0 : 0 ≤ x) (h1 : x ≤ 18446744073709551615) :
    Calls Tryd.prog 71 #[.int .u64 x] w fun e w' => e = .returned (.int .i64 (Lib.bitLen x.toNat)) ∧ w' = w :=
  Any.bits_Len64 len_lays x w h0 h1
def mxN (l : List Int) : Nat := l.foldl (fun m v => max m v.natAbs) 0
def plnN (l : List Int) : Nat := Lib.bitLen (mxN l)
theorem mxN_take (l : List Int) (k : Nat) (hk : k < l.length) : mxN (l.take (k + 1)) = max (mxN (l.take k)) l[k].natAbs := foldl_take (fun m (v : Int) => max m v.natAbs) 0 l k hk
theorem foldl_max (l : List Int) (m0 : Nat) : m0 ≤ l.foldl (fun m v => max m v.natAbs) m0 ∧ ∀ v ∈ l, v.natAbs ≤ l.foldl (fun m v => max m v.natAbs) m0 := by
  induction l generalizing m0 with
  | nil => simp
  | cons a l ih =>
    obtain ⟨h1, h2⟩ := ih (max m0 a.natAbs)
    refine ⟨by rw [List.foldl_cons]; omega, fun v hv => ?_⟩
    rw [List.foldl_cons]
    rcases List.mem_cons.1 hv with rfl | h
    · omega
    · exact h2 v h
theorem mxN_le (l : List Int) (v : Int) (hv : v ∈ l) : v.natAbs ≤ mxN l := (foldl_max l 0).2 v hv
theorem foldl_max_lt (l : List Int) (b : Nat) (h : ∀ v ∈ l, v.natAbs < b) (m0 : Nat) (hm : m0 < b) : l.foldl (fun m v => max m v.natAbs) m0 < b := by
  induction l generalizing m0 with
  | nil => exact hm
  | cons a l ih =>
    rw [List.foldl_cons]
    have := h a (by simp)
    exact ih (fun v hv => h v (List.mem_cons_of_mem _ hv)) _ (by omega)
theorem mxN_lt (l : List Int) (b : Nat) (hb : 0 < b) (h : ∀ v ∈ l, v.natAbs < b) : mxN l < b := foldl_max_lt l b h 0 hb
theorem mxN_64 (l : List Int) (h : ∀ v ∈ l, i64R v) : mxN l ≤ 9223372036854775808 := by
  have := mxN_lt l 9223372036854775809 (by decide) fun v hv => by have := h v hv; unfold i64R at this; omega
  omega
set_option maxHeartbeats 4000000 in
theorem planes_c (s : Option Addr) (l : List Int) (m : Nat) (W : World) (hH : HoldsI W s l) (hr : ∀ v ∈ l, i64R v) (hl : l.length ≤ 1000000000) : Calls Tryd.prog 25 #[.slice s l.length m] W fun e w' => e = .returned (.int .i64 (plnN l : Int)) ∧ W = w' := by
  have hmx := hmx
  have HR := Lib.hid hr
  have HHH := Lib.hid hH
  have HL := Lib.hid hl
  have h64 := fun k => mxN_64 (l.take k) (fun v hv => hr v (List.mem_of_mem_take hv))
  have H64 := Lib.hid h64
  clear hr hH hl h64
  go_enter Tryd.func25, Tryd.ntmps25
  go_wp2_with fail
  go_loopw [3, 8] (fun z i wr => ∃ k : Nat, k ≤ l.length ∧ i = .int .i64 (k : Int) ∧ z = .int .u64 ((mxN (l.take k) : Nat) : Int) ∧ Hid (W = wr)) (fun _ i _ => (l.length - (intOf i).toNat))
  case atStart => exact ⟨0, by omega, rfl, rfl, rfl⟩
  case round =>
    obtain ⟨k, hk, rfl, rfl, hW⟩ := hrel
    obtain rfl := hW.out
    by_cases hlt : k < l.length
    · obtain ⟨b, off, rfl, hA⟩ := HHH.out.resolve_left (fun h => by rw [h] at hlt; simp at hlt)
      have c0 := hA k hlt
      have hnx := mxN_take l k hlt
      have hv := HR.out _ (List.getElem_mem hlt)
      have h1 := H64.out k
      obtain ⟨v, hve⟩ : ∃ v, v = l[k] := ⟨_, rfl⟩
      rw [← hve] at c0 hnx hv
      obtain ⟨v', hv'⟩ : ∃ v', v' = IntKind.i64.wrap (-v) := ⟨_, rfl⟩
      have wv : IntKind.i64.wrap (-v) = v' := hv'.symm
      have wc : IntKind.u64.wrap (max v v') = (v.natAbs : Int) := by
        unfold i64R at hv
        rw [IntWalk.i64_left] at hv'
        have e : IntKind.u64.wrap (max v v') = (max v v') % 18446744073709551616 := by unfold IntKind.wrap; simp [IntKind.bits, IntKind.signed]
        rw [e, hv']
        unfold wrap64
        omega
      have hmm : max ((mxN (l.take k) : Nat) : Int) (v.natAbs : Int) = ((mxN (l.take (k + 1)) : Nat) : Int) := by rw [hnx]; omega
      have wk : IntKind.i64.wrap ((k : Int) + 1) = ((k + 1 : Nat) : Int) := by have := HL.out; rw [IntWalk.i64_left]; unfold wrap64; omega
      have HLT := Lib.hid hlt
      clear hv' hnx hv h1 hve
      generalize (v.natAbs : Int) = va at *
      generalize ((mxN (l.take k) : Nat) : Int) = ma at *
      generalize hmb : ((mxN (l.take (k + 1)) : Nat) : Int) = mb at *
      have HMB := Lib.hid hmb
      clear hmb
      go_wp2_with fail
      go_roundw
      case rel => exact ⟨k + 1, HLT.out, by go_num, by rw [HMB.out], trivial⟩
      case measure => have := HLT.out; simp [intOf]; omega
    · have hkl : k = l.length := by omega
      subst hkl
      rw [List.take_length]
      have hq := len_q ((mxN l : Nat) : Int) W (by omega) (by have := H64.out l.length; rw [List.take_length] at this; omega)
      rw [Int.toNat_natCast] at hq
      go_wp2_with (first | (go_at_call 71; (with_reducible refine hq.mono ?_); rintro e wn ⟨rfl, rfl⟩))
      go_ret
      exact ⟨rfl, rfl⟩
end Go.Proofs.YtbhjapgioaiocaaDoor
