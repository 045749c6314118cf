/-
  Lists of lists in memory; rows of the reference of layer 5.
-/
import Derived.Test.YtnfnidgabgdphaaDwA
set_option maxRecDepth 100000
namespace Go.Proofs.Ytnfnidgabgdphaa
open Go.RowKit

/-- A slice's address holds the slices of a list of lists. -/
def HoldsC (w : World) (a : Option Addr) (C : List (List Int)) : Prop := C = [] ∨ ∃ b off, a = some ⟨b, off, none⟩ ∧ ∀ k (hk : k < C.length), ∃ s m, w.cell? ⟨b, off + k, none⟩ = some (.slice s C[k].length m) ∧ HoldsI w s C[k]
theorem HoldsC.call {w w1 : World} {a : Option Addr} {C : List (List Int)} (h : HoldsC w a C) (hb : Below w.heap.size w w1) : HoldsC w1 a C := by
  rcases h with rfl | ⟨b, off, rfl, hr⟩
  · exact .inl rfl
  · refine .inr ⟨b, off, rfl, fun k hk => ?_⟩
    obtain ⟨s, m, h1, h2⟩ := hr k hk
    exact ⟨s, m, (hb.cell (p := ⟨b, _, none⟩) (cell_lt h1)).trans h1, h2.call hb⟩
theorem HoldsC.alloc {w : World} {a : Option Addr} {C : List (List Int)} (h : HoldsC w a C) (X : Obj) : HoldsC (w.alloc X) a C := h.call ((Below.refl _ _).alloc (Nat.le_refl _) _)
theorem flat_next {Q : List (List Int)} {k : Nat} (hk : k < Q.length) : (Q.take (k + 1)).flatten = (Q.take k).flatten ++ Q[k] := by
  rw [List.take_succ_eq_append_getElem hk, List.flatten_append]
  simp
theorem take_len {n : Nat} {Q : List (List Int)} (h : Ex.Wide n Q) {k : Nat} (hk : k ≤ Q.length) : (Q.take k).flatten.length = k * n := by
  rw [Ex.flat_len (n := n) fun r hr => h r (List.mem_of_mem_take hr), List.length_take, Nat.min_eq_left hk]
theorem Gl.made (w : World) : Gl w (.slice (some ⟨w.heap.size, 0, none⟩) 0 0) [] (w.alloc (.cells #[] 3)) :=
  ⟨below_alloc (Below.refl _ w) _, by simpa using World.ownsRow_made (base := w.heap.size) (e := 3) (size := 1) w #[] 0 (Nat.le_refl _) (Nat.zero_le _) rfl⟩
theorem Gl.up {w w1 W : World} {v : Value} {l : List Int} (h : Gl w1 v l W) (hb : Below w.heap.size w w1) : Gl w v l W := by
  refine ⟨below_call hb h.below, h.own.1, ?_⟩
  rcases h.own.2 with h' | ⟨g, cap, cur, rfl, h3, h4⟩
  · exact .inl h'
  · exact .inr ⟨g, cap, cur, rfl, Nat.le_trans hb.size h3, h4⟩
theorem mul_4096 {a b : Nat} (ha : a ≤ 4096) (hb : b ≤ 4096) : a * b ≤ 16777216 := Nat.mul_le_mul ha hb
set_option maxRecDepth 100000 in
set_option maxHeartbeats 2000000 in
theorem rows_r (C : List (List Int)) (n : Nat) (a : Option Addr) (m : Nat) (w : World) (hW : Ex.Wide n C) (hn : n ≤ 4096) (hC : C.length ≤ 4096) (hH : HoldsC w a C) :
    Calls Try.prog 123 #[.slice a C.length m] w fun e w' => ∃ v, e = .returned v ∧ Gl w v (Ex.trn n C).flatten w' := by
  obtain ⟨i0, hi, hz0, hz1, hz2⟩ := info_parts infoI
  by_cases h0 : C.length = 0
  · obtain rfl := List.length_eq_zero_iff.1 h0
    have e0 : (Ex.trn n []).flatten = [] := by
      rw [List.flatten_eq_nil_iff]
      intro r hr
      have := Ex.trn_mem hr
      exact List.length_eq_zero_iff.1 this
    have G := Gl.made w
    go_enter Try.func123, Try.ntmps123
    go_wp2
    go_ret
    exact ⟨_, rfl, by rw [e0]; exact G⟩
  · have h0a : ((C.length : Int) == 0) = false := by rw [beq_eq_false_iff_ne]; omega
    have h0b : decide ((C.length : Int) = 0) = false := by rw [decide_eq_false_iff_not]; omega
    rcases hH with rfl | ⟨bb, off, rfl, hr⟩
    · simp at h0
    obtain ⟨s0, m0, c0, _⟩ := hr 0 (by omega)
    rw [hW _ (List.getElem_mem (by omega))] at c0
    have hTl : (Ex.trn n C).length = n := Ex.trn_len _ _
    have hTw : Ex.Wide C.length (Ex.trn n C) := Ex.trn_wide n C
    have G := Gl.made w
    go_enter Try.func123, Try.ntmps123
    go_wp2_with fail
    clear h0a h0b
    go_loopw [3, 4, 5] (fun v i _ wr => ∃ (y : Nat) (out : List Int) (x : Value), y ≤ n ∧ i = .int .i64 y ∧ out = ((Ex.trn n C).take y).flatten ∧ x = v ∧ Gl w x out wr) (fun _ i _ _ => n - (intOf i).toNat)
    case atStart => exact ⟨0, [], _, Nat.zero_le _, rfl, by simp, rfl, G⟩
    case round =>
      obtain ⟨y, out, x, hy, rfl, hO, rfl, hG⟩ := hrel
      clear G
      have k0 : wr.cell? ⟨bb, off, none⟩ = some (.slice s0 n m0) := (hG.below.cell (p := ⟨bb, _, none⟩) (cell_lt c0)).trans c0
      by_cases hlt : y < n
      · have hyi : (y : Int) < (n : Int) := by omega
        have w1 : IntKind.i64.wrap ((y : Int) + 1) = (y : Int) + 1 := IntWalk.i64_in _ (by omega)
        have hyT : y < (Ex.trn n C).length := by omega
        have hnext := flat_next hyT
        rw [← hO, Ex.trn_at hyT] at hnext
        have hol : out.length ≤ 16777216 := by rw [hO, take_len hTw (by omega)]; exact mul_4096 (by omega) hC
        have HN : Hid _ := hnext
        clear hnext hO hyT
        obtain ⟨R, hR⟩ : ∃ R, (C.map fun r => r.getD y 0) = R := ⟨_, rfl⟩
        have hRl : R.length = C.length := by rw [← hR, List.length_map]
        have hRa : ∀ k (h1 : k < C.length) (h2 : k < R.length) (h3 : y < C[k].length), R[k] = (C[k])[y] := by
          intro k h1 h2 h3
          subst hR
          simp [h3]
        have HR : Hid _ := hR
        clear hR
        go_wp2_with fail
        go_loopw [3, 5] (fun v i wr => ∃ (k : Nat) (o2 : List Int) (x : Value), k ≤ C.length ∧ i = .int .i64 k ∧ o2 = out ++ R.take k ∧ x = v ∧ Gl w x o2 wr) (fun _ i _ => C.length - (intOf i).toNat)
        case atStart => exact ⟨0, out, _, Nat.zero_le _, rfl, by simp, rfl, hG⟩
        case round =>
          obtain ⟨k, o2, x2, hk, rfl, hO2, rfl, hG2⟩ := hrel
          by_cases hlt2 : k < C.length
          · have hki : (k : Int) < (C.length : Int) := by omega
            have w2 : IntKind.i64.wrap ((k : Int) + 1) = (k : Int) + 1 := IntWalk.i64_in _ (by omega)
            obtain ⟨s1, m1, c1, g1⟩ := hr k hlt2
            have hln := hW _ (List.getElem_mem hlt2)
            rw [hln] at c1
            have k1 : wr.cell? ⟨bb, off + k, none⟩ = some (.slice s1 n m1) := (hG2.below.cell (p := ⟨bb, _, none⟩) (cell_lt c1)).trans c1
            have hyl : y < (C[k]).length := by omega
            have hkR : k < R.length := by omega
            have hRk := hRa k hlt2 hkR hyl
            have htk := List.take_succ_eq_append_getElem hkR
            rw [hRk] at htk
            rcases g1 with g1 | ⟨b2, f2, rfl, g2⟩
            · rw [g1] at hyl; exact absurd hyl (Nat.not_lt_zero _)
            have y1 := g2 y hyl
            have k2 : wr.cell? ⟨b2, f2 + y, none⟩ = some (.int .i64 (C[k])[y]) := (hG2.below.cell (p := ⟨b2, _, none⟩) (cell_lt y1)).trans y1
            have hl2 : o2.length ≤ 16781312 := by rw [hO2, List.length_append, List.length_take]; omega
            have hX0 : o2 ++ [(C[k])[y]] = out ++ R.take (k + 1) := by rw [hO2, htk, List.append_assoc]
            have HX : Hid _ := hX0
            clear hX0
            generalize (C[k])[y] = V at *
            clear htk hRk y1 g2 hO2 c1
            go_wp2_with (first | (at_builtin; refine wpList_append_own _ rfl _ _ 28 rfl w.heap.size 3 i0 (.int .i64 0) 1 8 Try.underlying28 hi hz0 hz1 hz2 rfl (by decide) _ _ _ rfl (own_below hG2.own ((Below.refl _ _).alloc (Nat.le_refl _) _)) ⟨wr.heap.size, 0, none⟩ 1 1 [.int .i64 V] rfl rfl (one_new wr _ _) (oneOne _) (by unfold maxLen; omega) (by omega) (by have := hG2.below.size; simp; omega) ?_))
            intro v' wz hown hgrow _
            obtain ⟨sv, mv, rfl⟩ := own_slice hown
            have HG : Hid _ := hG2.push _ hgrow hown
            clear hown hgrow hG2
            go_wp2
            go_roundw
            case rel => exact ⟨k + 1, _, _, by omega, by go_num, HX.out, rfl, HG.out⟩
            case measure => simp [intOf]; omega
          · obtain rfl : k = C.length := by omega
            have hX0 : o2 = ((Ex.trn n C).take (y + 1)).flatten := by
              rw [hO2, HN.out, HR.out, ← hRl, List.take_length]
            have HX : Hid _ := hX0
            clear hX0
            obtain ⟨sv, mv, rfl⟩ := own_slice hG2.own
            have HG : Hid _ := hG2
            clear hO2 hG2
            go_wp2
            go_roundw
            case rel => exact ⟨y + 1, _, _, by omega, by go_num, HX.out, rfl, HG.out⟩
            case measure => simp [intOf]; omega
      · obtain rfl : y = n := by omega
        have hE : out = (Ex.trn y C).flatten := by rw [hO, List.take_of_length_le (by omega)]
        obtain ⟨sv, mv, rfl⟩ := own_slice hG.own
        subst hE
        have HG : Hid _ := hG
        clear hO hG
        go_wp2
        go_ret
        exact ⟨_, rfl, HG.out⟩
end Go.Proofs.Ytnfnidgabgdphaa
