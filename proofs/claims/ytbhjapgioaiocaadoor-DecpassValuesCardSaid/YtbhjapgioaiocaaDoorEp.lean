/-
  Layer 15: blocks that New did not return; the reference's Planes.
-/
import Derived.Test.YtbhjapgioaiocaaDoorEo
set_option maxRecDepth 100000
namespace Go.Proofs.YtbhjapgioaiocaaDoor
open Go.RowKit

/-- A block that made refuses, in all later worlds. -/
def NoB (p : Option Addr) (w : World) : Prop := ∀ W, Below w.heap.size w W → Calls Tryd.prog 105 #[.pointer p] W fun e w' => e = .returned (.bool false) ∧ W = w'
theorem NoB.step {p : Option Addr} {w w1 : World} (h : NoB p w) (hb : Below w.heap.size w w1) : NoB p w1 := fun W hW => h W (below_call hb hW)
theorem noB_nil (w : World) : NoB none w := fun W _ => made_n W
theorem noB_zero {w : World} {a : Nat} (h : w.cell? ⟨a, 6, none⟩ = some (.pointer none)) : NoB (some ⟨a, 0, none⟩) w := fun W hb => made_z a W ((hb.cell (p := ⟨a, 6, none⟩) (cell_lt h)).trans h)
section
variable {p : Option Addr} {W : World}
theorem nsize (h : NoB p W) : Calls Tryd.prog 77 #[.pointer p] W fun e w' => e = .returned (.tuple #[.int .i64 0, .int .i64 0]) ∧ W = w' := by
  have m := h W (Below.refl _ _)
  go_enter Tryd.func77, Tryd.ntmps77
  go_wp2_with (first | (go_at_call 105; (with_reducible refine m.mono ?_); rintro e wn ⟨rfl, rfl⟩))
  go_ret2
  exact ⟨rfl, rfl⟩
end
theorem check_n {p : Option Addr} {W : World} (h : NoB p W) (pass planes o : Int) : Calls Tryd.prog 50 #[.pointer p, .int .i64 pass, .int .i64 planes, .int .i64 o] W fun e w' => e = .returned (.int .i64 6) ∧ W = w' := by
  have ks := nsize h
  clear h
  go_enter Tryd.func50, Tryd.ntmps50
  go_wp2_with (first | (go_at_call 77; (with_reducible refine ks.mono ?_); rintro e wa ⟨rfl, rfl⟩))
  go_ret
  exact ⟨rfl, rfl⟩
theorem run_n {p : Option Addr} {W : World} (h : NoB p W) (pass planes o : Int) (m : Mo) : Calls Tryd.prog 18 #[.pointer p, .int .i64 pass, .int .i64 planes, .int .i64 o, m.val] W fun e w' => e = .returned (.tuple #[.slice none 0 0, .int .i64 6]) ∧ Below W.heap.size W w' := by
  unfold Mo.val
  have hM := below_alloc (Below.refl _ W) (.cells #[.bool m.b, .bool m.r, .bool m.s, .bool m.c, .bool m.y] 26)
  have kc := check_n (h.step hM) pass planes o
  have HM := Lib.hid hM
  clear h hM
  go_enter Tryd.func18, Tryd.ntmps18
  go_wp2_with (first | (go_at_call 50; (with_reducible refine kc.mono ?_); rintro e wa ⟨rfl, rfl⟩))
  go_ret2
  exact ⟨rfl, HM.out⟩
theorem aux_iff (f x n : Nat) (h : x < 2 ^ f) : Lib.bitLenAux f x ≤ n ↔ x < 2 ^ n := by
  induction f generalizing x n with
  | zero =>
    have : x = 0 := by simpa using h
    subst this
    simp [Lib.bitLenAux]
    exact Nat.two_pow_pos n
  | succ f ih =>
    unfold Lib.bitLenAux
    by_cases hx : x = 0
    · subst hx
      rw [if_pos rfl]
      simp
      exact Nat.two_pow_pos n
    · rw [if_neg hx]
      cases n with
      | zero => simp; omega
      | succ n =>
        have h2 : x / 2 < 2 ^ f := by rw [Nat.pow_succ] at h; omega
        have := ih (x / 2) n h2
        rw [Nat.pow_succ]
        omega
theorem bit_iff (x n : Nat) (h : x < 2 ^ 64) : Lib.bitLen x ≤ n ↔ x < 2 ^ n := aux_iff 64 x n h
theorem bit_max (x y : Nat) (hx : x < 2 ^ 64) (hy : y < 2 ^ 64) : Lib.bitLen (max x y) = max (Lib.bitLen x) (Lib.bitLen y) := by
  have hm : max x y < 2 ^ 64 := by omega
  have h1 := fun n => bit_iff x n hx
  have h2 := fun n => bit_iff y n hy
  have h3 := fun n => bit_iff (max x y) n hm
  have a1 := (h1 (Lib.bitLen (max x y))).2 (by have := (h3 _).1 (Nat.le_refl _); omega)
  have a2 := (h2 (Lib.bitLen (max x y))).2 (by have := (h3 _).1 (Nat.le_refl _); omega)
  have a3 := (h3 (max (Lib.bitLen x) (Lib.bitLen y))).2 (by
    have b1 := (h1 (max (Lib.bitLen x) (Lib.bitLen y))).1 (by omega)
    have b2 := (h2 (max (Lib.bitLen x) (Lib.bitLen y))).1 (by omega)
    omega)
  omega
theorem bit_le64 (x : Nat) (h : x < 2 ^ 64) : Lib.bitLen x ≤ 64 := (bit_iff x 64 h).2 h
theorem xabs_c (v : Int) (hv : i64R v) (W : World) : Calls Tryd.prog 72 #[.int .i64 v] W fun e w' => e = .returned (.int .u64 (v.natAbs : Int)) ∧ W = w' := by
  unfold i64R at hv
  by_cases h : v < 0
  · have w1 : IntKind.u64.wrap v = v + 18446744073709551616 := by unfold IntKind.wrap; simp [IntKind.bits, IntKind.signed]; omega
    have w2 : IntKind.u64.wrap (-(v + 18446744073709551616)) = (v.natAbs : Int) := by unfold IntKind.wrap; simp [IntKind.bits, IntKind.signed]; omega
    generalize (v.natAbs : Int) = a at *
    obtain ⟨u, hu⟩ : ∃ u, u = v + 18446744073709551616 := ⟨_, rfl⟩
    rw [← hu] at w1 w2
    clear hu hv
    go_enter Tryd.func72, Tryd.ntmps72
    go_wp2_with fail
    go_ret
    exact ⟨rfl, rfl⟩
  · have w1 : IntKind.u64.wrap v = v := by unfold IntKind.wrap; simp [IntKind.bits, IntKind.signed]; omega
    have e : (v.natAbs : Int) = v := by omega
    rw [e]
    clear e hv
    go_enter Tryd.func72, Tryd.ntmps72
    go_wp2_with fail
    go_ret
    exact ⟨rfl, rfl⟩
set_option maxHeartbeats 4000000 in
theorem xplanes_c (s : Option Addr) (l : List Int) (m : Nat) (W : World) (hH : HoldsI W s l) (hr : ∀ v ∈ l, i64R v) (hl : l.length ≤ 9223372036854775807) : Calls Tryd.prog 26 #[.slice s l.length m] W fun e w' => e = .returned (.int .i64 (plnN l : Int)) ∧ W = w' := by
  have HR := Lib.hid hr
  have HHH := Lib.hid hH
  have HL := Lib.hid hl
  have h64 : ∀ k, mxN (l.take k) < 2 ^ 64 := fun k => by have := mxN_64 (l.take k) (fun v hv => hr v (List.mem_of_mem_take hv)); omega
  have H64 := Lib.hid h64
  clear hr hH hl h64
  go_enter Tryd.func26, Tryd.ntmps26
  go_wp2_with fail
  go_loopw [3, 8] (fun z i wr => ∃ k : Nat, k ≤ l.length ∧ i = .int .i64 (k : Int) ∧ z = .int .i64 ((plnN (l.take k) : Nat) : Int) ∧ Hid (W = wr)) (fun _ i _ => (l.length - (intOf i).toNat))
  case atStart => exact ⟨0, by omega, rfl, rfl, rfl⟩
  case round =>
    obtain ⟨k, hk, rfl, rfl, hW⟩ := hrel
    obtain rfl := hW.out
    by_cases hlt : k < l.length
    · obtain ⟨b, off, rfl, hA⟩ := HHH.out.resolve_left (fun h => by rw [h] at hlt; simp at hlt)
      have c0 := hA k hlt
      have hnx := mxN_take l k hlt
      have hv := HR.out _ (List.getElem_mem hlt)
      obtain ⟨v, hve⟩ : ∃ v, v = l[k] := ⟨_, rfl⟩
      rw [← hve] at c0 hnx hv
      have hvl : v.natAbs < 2 ^ 64 := by unfold i64R at hv; omega
      have hpn : plnN (l.take (k + 1)) = max (plnN (l.take k)) (Lib.bitLen v.natAbs) := by unfold plnN; rw [hnx, bit_max _ _ (H64.out k) hvl]
      have ka := fun W => xabs_c v hv W
      have hb64 := bit_le64 _ hvl
      have hp64 : plnN (l.take k) ≤ 64 := bit_le64 _ (H64.out k)
      have hiff := fun n => bit_iff v.natAbs n hvl
      have HIFF := Lib.hid hiff
      have HPN := Lib.hid hpn
      have HB64 := Lib.hid hb64
      have HP64 := Lib.hid hp64
      have HLT := Lib.hid hlt
      have wk : IntKind.i64.wrap ((k : Int) + 1) = ((k + 1 : Nat) : Int) := by have := HL.out; rw [IntWalk.i64_left]; unfold wrap64; omega
      clear hpn hb64 hp64 hnx hv hvl hve hiff hA
      generalize hA : v.natAbs = va at *
      clear hA
      generalize hp0 : plnN (l.take k) = p0 at *
      clear hp0
      go_wp2_with fail
      go_loopw [3] (fun z wr => ∃ n : Nat, z = .int .i64 (n : Int) ∧ Hid (p0 ≤ n ∧ n ≤ max p0 (Lib.bitLen va)) ∧ Hid (W = wr)) (fun z _ => (64 - (intOf z).toNat))
      case atStart => exact ⟨p0, rfl, ⟨Nat.le_refl _, by omega⟩, rfl⟩
      case round =>
        obtain ⟨n, rfl, hn, hW⟩ := hrel
        obtain rfl := hW.out
        have hn64 : n ≤ 64 := by have := hn.out; have := HB64.out; have := HP64.out; omega
        have wn : IntKind.i64.wrap ((n : Int) + 1) = ((n + 1 : Nat) : Int) := by rw [IntWalk.i64_left]; unfold wrap64; omega
        have wu : IntKind.u64.wrap (n : Int) = (n : Int) := by unfold IntKind.wrap; simp [IntKind.bits, IntKind.signed]; omega
        by_cases hgo : n < Lib.bitLen va
        · have hn4 : n < 64 := by have := HB64.out; omega
          have hn5 : (n : Int) < 64 := by omega
          have hmin : min n 64 = n := by omega
          have hpos : (0 : Int) < (va : Int) / 2 ^ n := by
            have h1 : ¬ va < 2 ^ n := fun h => by have := (HIFF.out n).2 h; omega
            have h2 : 0 < va / 2 ^ n := Nat.div_pos (by omega) (Nat.two_pow_pos n)
            have h3 : ((va / 2 ^ n : Nat) : Int) = (va : Int) / 2 ^ n := by rw [Int.natCast_ediv, Int.natCast_pow]; rfl
            omega
          have HGO := Lib.hid hgo
          clear hgo hn64
          go_wp2_with (first | (go_at_call 72; (with_reducible refine (ka _).mono ?_); rintro e wn ⟨rfl, rfl⟩))
          go_roundw
          case rel => exact ⟨n + 1, by go_num, ⟨by have := hn.out; omega, by have := HGO.out; omega⟩, trivial⟩
          case measure => simp [intOf]; omega
        · have hfin : n = max p0 (Lib.bitLen va) := by have := hn.out; omega
          rw [← hfin] at HPN
          by_cases hn4 : n < 64
          · have hn5 : (n : Int) < 64 := by omega
            have hmin : min n 64 = n := by omega
            have hpos : (va : Int) / 2 ^ n ≤ 0 := by
              have h1 : va < 2 ^ n := (HIFF.out n).1 (by omega)
              have h2 : va / 2 ^ n = 0 := Nat.div_eq_of_lt h1
              have h3 : ((va / 2 ^ n : Nat) : Int) = (va : Int) / 2 ^ n := by rw [Int.natCast_ediv, Int.natCast_pow]; rfl
              omega
            clear hgo hn64 hfin
            go_wp2_with (first | (go_at_call 72; (with_reducible refine (ka _).mono ?_); rintro e wn ⟨rfl, rfl⟩))
            go_roundw
            case rel => exact ⟨k + 1, HLT.out, by go_num, by rw [HPN.out], trivial⟩
            case measure => have := HLT.out; simp [intOf]; omega
          · have hn5 : ¬ (n : Int) < 64 := by omega
            clear hgo hn64 hfin
            go_wp2_with fail
            go_roundw
            case rel => exact ⟨k + 1, HLT.out, by go_num, by rw [HPN.out], trivial⟩
            case measure => have := HLT.out; simp [intOf]; omega
    · have hkl : k = l.length := by omega
      subst hkl
      rw [List.take_length]
      go_wp2_with fail
      go_ret
      exact ⟨rfl, rfl⟩
end Go.Proofs.YtbhjapgioaiocaaDoor
