/-
  The reference's writer of layer 9 in memory: NewWriter, Put, Bits, Gamma, Unary, Len.
-/
import Derived.Test.YtaddendclipkkaaWd
set_option maxRecDepth 100000
namespace Go.Proofs.Ytaddendclipkkaa
open Go.RowKit

/-- The reference's writer at a block: its row's value, its bits. -/
structure VrC (w : World) (B b : Nat) (sv : Value) (l : List Int) : Prop where
  ge : B ≤ b
  blk : Blk w b 90 #[.bool true, sv]
  own : w.ownsRow B 3 1 sv l.length (l.map (Value.int .i64))
def Vr (w : World) (B b : Nat) (l : List Int) : Prop := ∃ sv, VrC w B b sv l
theorem Vr.lt {w : World} {B b : Nat} {l : List Int} (h : Vr w B b l) : b < w.heap.size := h.elim fun _ h => h.blk.lt
theorem Vr.ge {w : World} {B b : Nat} {l : List Int} (h : Vr w B b l) : B ≤ b := h.elim fun _ h => h.ge
theorem Vr.foot {w : World} {B b : Nat} {l : List Int} (h : Vr w B b l) (k : Nat) (hk : Fp w b k) : B ≤ k ∧ k < w.heap.size := by
  obtain ⟨sv, h⟩ := h
  rcases hk with rfl | ⟨v, hv, hk⟩
  · exact ⟨h.ge, h.blk.lt⟩
  · rw [show w.cell? ⟨b, 1, none⟩ = some sv from h.blk.cell 1] at hv
    obtain rfl := Option.some.inj hv
    exact h.own.lt k hk
theorem Vr.out {w w1 : World} {B b : Nat} {l : List Int} (h : Vr w B b l) (k : Kp b w w1) : Below B w w1 := k.below (fun i hi => (h.foot i hi).1) (by have := h.ge; have := h.lt; omega)
theorem Vr.keep {w w1 : World} {B b : Nat} {l : List Int} (h : Vr w B b l) (hk : ∀ k, Fp w b k → w1.heap[k]? = w.heap[k]?) : Vr w1 B b l := by
  obtain ⟨sv, h⟩ := h
  refine ⟨sv, h.ge, (hk b (.inl rfl)).trans h.blk, ?_⟩
  obtain ⟨h1, h2⟩ := h.own
  refine ⟨h1, ?_⟩
  rcases h2 with h2 | ⟨g, cap, cur, hv, h3, h4, h5⟩
  · exact .inl h2
  · exact .inr ⟨g, cap, cur, hv, h3, (hk g (.inr ⟨sv, h.blk.cell 1, by rw [hv]; rfl⟩)).trans h4, h5⟩
theorem Vr.below {w w1 : World} {B b : Nat} {l : List Int} (h : Vr w B b l) (hb : Below w.heap.size w w1) : Vr w1 B b l := h.keep fun k hk => hb.block k (h.foot k hk).2
def VGives (B b : Nat) (l : List Int) (c : Int) (w : World) (e : Ending) (w' : World) : Prop := e = .returned (.int .i64 c) ∧ Vr w' B b l ∧ Kp b w w'
theorem vsame {w : World} {B b : Nat} {l : List Int} (hV : Vr w B b l) (c : Int) : VGives B b l c w (.returned (.int .i64 c)) w := ⟨rfl, hV, Kp.refl b w⟩
theorem vgrow {W W2 : World} {B b : Nat} {sv v' : Value} {l : List Int} {x : Int} (h : VrC W B b sv l) (hown : W2.ownsRow B 3 1 v' (l.length + 1) (l.map (Value.int .i64) ++ [.int .i64 x])) (hg : (W.alloc (.cells #[.int .i64 x] 3)).grownBy W2 sv.ownBlock) (hat : v'.ownBlock = sv.ownBlock ∨ v'.ownBlock = some (W.heap.size + 1)) :
    Vr (W2.setCell ⟨b, 1, none⟩ v') B b (l ++ [x]) ∧ Kp b W (W2.setCell ⟨b, 1, none⟩ v') ∧ W2.cell? ⟨b, 1, none⟩ = some sv ∧ W2.cell? ⟨b, 0, none⟩ = some (.bool true) ∧ (∀ i, W2.frozen? ⟨b, i, none⟩ = false) := by
  obtain ⟨x1, x2, x3, x4⟩ := grow_obj (Kp.refl b W) h.blk rfl h.own (by decide) hown hg hat
  exact ⟨⟨v', h.ge, x1, by rw [List.length_append, List.map_append]; exact x2⟩, x3, x4.cell 1, x4.cell 0, x4.free⟩
theorem vnew_c (w : World) : Calls Try.prog 19 #[] w fun e w' => ∃ a, e = .returned (.pointer (some ⟨a, 0, none⟩)) ∧ Vr w' w.heap.size a [] ∧ Below w.heap.size w w' := by
  go_enter Try.func19, Try.ntmps19
  go_wp2_with fail
  go_ret
  exact ⟨_, rfl, ⟨.slice none 0 0, Nat.le_refl _, Blk.new w 90 _, World.ownsRow_nil _ _ _ _⟩, (Below.refl _ _).alloc (Nat.le_refl _) _⟩
theorem vlen_c (w : World) (B b : Nat) (l : List Int) (hV : Vr w B b l) : Calls Try.prog 26 #[.pointer (some ⟨b, 0, none⟩)] w fun e w' => e = .returned (.int .i64 l.length) ∧ w = w' := by
  obtain ⟨sv, h⟩ := hV
  have c0 : w.cell? ⟨b, 0, none⟩ = some (.bool true) := h.blk.cell 0
  have c1 : w.cell? ⟨b, 1, none⟩ = some sv := h.blk.cell 1
  obtain ⟨s, m, rfl⟩ := own_slice h.own
  clear h
  go_enter Try.func26, Try.ntmps26
  go_wp2_with fail
  go_ret
  exact ⟨rfl, rfl⟩
theorem vbits_c (w : World) (B b : Nat) (l : List Int) (v n : Int) (hV : Vr w B b l) (hc : l.length + 32 ≤ 1000000000) :
    Calls Try.prog 53 #[.pointer (some ⟨b, 0, none⟩), .int .i64 v, .int .i64 n] w (VGives B b (l ++ bitsM v n) (bitsC v n) w) := by
  have c0 : w.cell? ⟨b, 0, none⟩ = some (.bool true) := hV.elim fun _ h => h.blk.cell 0
  have ha := and1
  unfold bitsM bitsC
  by_cases h1 : n < 0
  · have ho : okB v n = false := by simp [okB]; omega
    rw [ho]
    go_enter Try.func53, Try.ntmps53
    go_wp2_with fail
    go_ret
    simpa using vsame hV 1
  by_cases h2 : 32 < n
  · have ho : okB v n = false := by simp [okB]; omega
    rw [ho]
    go_enter Try.func53, Try.ntmps53
    go_wp2_with fail
    go_ret
    simpa using vsame hV 1
  obtain ⟨k, rfl⟩ : ∃ k : Nat, n = k := ⟨n.toNat, by omega⟩
  by_cases h3 : v < 0
  · have ho : okB v k = false := by simp [okB]; omega
    rw [ho]
    go_enter Try.func53, Try.ntmps53
    go_wp2_with fail
    go_ret
    simpa using vsame hV 1
  have hk : k ≤ 32 := by omega
  have hp := pow_bd hk
  have hu : IntKind.u64.wrap (k : Int) = k := by rw [IntKind.wrap_u64]; omega
  by_cases h4 : v < 2 ^ k
  · have ho : okB v k = true := by simp [okB]; omega
    rw [ho]
    clear ho
    have hdc : decide ((2 : Int) ^ k ≤ v) = false := by simp; omega
    obtain ⟨i0, hi, hz0, hz1, hz2⟩ := info_parts infoI
    go_enter Try.func53, Try.ntmps53
    go_wp2_with fail
    go_loopw [7] (fun i wr => ∃ j : Nat, j ≤ k ∧ i = .int .i64 ((j : Int) - 1) ∧ Vr wr B b (l ++ (Bi.dig v k).take (k - j)) ∧ Kp b w wr) (fun i _ => (intOf i + 1).toNat)
    case atStart => exact ⟨k, Nat.le_refl _, rfl, by simpa using hV, Kp.refl b w⟩
    case round =>
      obtain ⟨j, hj, rfl, hR, hK⟩ := hrel
      cases j with
      | zero =>
        go_wp2_with fail
        go_ret
        exact ⟨rfl, by simpa [List.take_of_length_le (Nat.le_of_eq (Bi.dig_len v k))] using hR, hK⟩
      | succ j =>
        have hju : IntKind.u64.wrap (j : Int) = j := by rw [IntKind.wrap_u64]; omega
        have hll : (l ++ (Bi.dig v k).take (k - (j + 1))).length ≤ 999999999 := by simp [Bi.dig_len]; omega
        obtain ⟨L, hL⟩ : ∃ L, L = l ++ (Bi.dig v k).take (k - (j + 1)) := ⟨_, rfl⟩
        rw [← hL] at hR hll
        have HLL := Lib.hid hL
        clear hL
        obtain ⟨sv, hV1⟩ := hR
        have c1 : wr.cell? ⟨b, 1, none⟩ = some sv := hV1.blk.cell 1
        have hO := hV1.own
        have hBs : B ≤ wr.heap.size := by have := hV1.ge; have := hV1.blk.lt; omega
        have HL := Lib.hid hll
        have HV := Lib.hid hV1
        clear hV1
        go_wp2_with (first | (at_builtin; refine wpList_append_own_at _ rfl _ _ 69 rfl B 3 i0 (.int .i64 0) 1 8 Try.underlying69 hi hz0 hz1 hz2 rfl (by decide) _ _ _ rfl (own_below hO ((Below.refl _ _).alloc (Nat.le_refl _) _)) ⟨wr.heap.size, 0, none⟩ 1 1 [.int .i64 (v / 2 ^ j % 2)] rfl rfl (one_new8 _ _ _) (oneOne _) (by unfold maxLen; omega) (by omega) (by simp; omega) ?_))
        intro v' w2 hown hgrow _ hat
        obtain ⟨s', m', rfl⟩ := own_slice hown
        obtain ⟨x1, x2, x3, x4, x5⟩ := vgrow HV.out hown hgrow (by simpa using hat)
        clear hown hgrow hat hO c1
        go_wp2_with fail
        go_roundw
        case rel => exact ⟨j, by omega, rfl, by rw [← Bi.dig_next v (show j < k by omega), ← List.append_assoc, ← HLL.out]; exact x1, hK.trans x2⟩
        case measure => simp [intOf]
  · have ho : okB v k = false := by simp [okB]; omega
    rw [ho]
    go_enter Try.func53, Try.ntmps53
    go_wp2_with fail
    go_ret
    simpa using vsame hV 1
theorem put_ok (v : Int) : okB v 1 = decide (v = 0 ∨ v = 1) := by
  rw [Bool.eq_iff_iff]; simp [okB]; omega
theorem dig0 : Bi.dig 0 1 = [0] := by decide
theorem dig1 : Bi.dig 1 1 = [1] := by decide
theorem vput_y (w : World) (B b : Nat) (l : List Int) (v : Int) (hR : Vr w B b l) (hv : v = 0 ∨ v = 1) (hll : l.length + 1 ≤ 1000000000) :
    Calls Try.prog 52 #[.pointer (some ⟨b, 0, none⟩), .int .i64 v] w (VGives B b (l ++ [v]) 0 w) := by
  have c0 : w.cell? ⟨b, 0, none⟩ = some (.bool true) := hR.elim fun _ h => h.blk.cell 0
  obtain ⟨i0, hi, hz0, hz1, hz2⟩ := info_parts infoI
  rcases hv with rfl | rfl
  · go_enter Try.func52, Try.ntmps52
    obtain ⟨sv, hV1⟩ := hR
    have c1 : w.cell? ⟨b, 1, none⟩ = some sv := hV1.blk.cell 1
    have hO := hV1.own
    have hBs : B ≤ w.heap.size := by have := hV1.ge; have := hV1.blk.lt; omega
    have HL := Lib.hid hll
    have HV := Lib.hid hV1
    clear hV1
    go_wp2_with (first | (at_builtin; refine wpList_append_own_at _ rfl _ _ 69 rfl B 3 i0 (.int .i64 0) 1 8 Try.underlying69 hi hz0 hz1 hz2 rfl (by decide) _ _ _ rfl (own_below hO ((Below.refl _ _).alloc (Nat.le_refl _) _)) ⟨w.heap.size, 0, none⟩ 1 1 [.int .i64 0] rfl rfl (one_new8 _ _ _) (oneOne _) (by unfold maxLen; omega) (by omega) (by simp; omega) ?_))
    intro v' w2 hown hgrow _ hat
    obtain ⟨s', m', rfl⟩ := own_slice hown
    obtain ⟨x1, x2, x3, x4, x5⟩ := vgrow HV.out hown hgrow (by simpa using hat)
    clear hown hgrow hat hO c1
    go_wp2_with fail
    go_ret
    exact ⟨rfl, x1, x2⟩
  · go_enter Try.func52, Try.ntmps52
    obtain ⟨sv, hV1⟩ := hR
    have c1 : w.cell? ⟨b, 1, none⟩ = some sv := hV1.blk.cell 1
    have hO := hV1.own
    have hBs : B ≤ w.heap.size := by have := hV1.ge; have := hV1.blk.lt; omega
    have HL := Lib.hid hll
    have HV := Lib.hid hV1
    clear hV1
    go_wp2_with (first | (at_builtin; refine wpList_append_own_at _ rfl _ _ 69 rfl B 3 i0 (.int .i64 0) 1 8 Try.underlying69 hi hz0 hz1 hz2 rfl (by decide) _ _ _ rfl (own_below hO ((Below.refl _ _).alloc (Nat.le_refl _) _)) ⟨w.heap.size, 0, none⟩ 1 1 [.int .i64 1] rfl rfl (one_new8 _ _ _) (oneOne _) (by unfold maxLen; omega) (by omega) (by simp; omega) ?_))
    intro v' w2 hown hgrow _ hat
    obtain ⟨s', m', rfl⟩ := own_slice hown
    obtain ⟨x1, x2, x3, x4, x5⟩ := vgrow HV.out hown hgrow (by simpa using hat)
    clear hown hgrow hat hO c1
    go_wp2_with fail
    go_ret
    exact ⟨rfl, x1, x2⟩
theorem vput_c (w : World) (B b : Nat) (l : List Int) (v : Int) (hV : Vr w B b l) (hc : l.length + 32 ≤ 1000000000) :
    Calls Try.prog 52 #[.pointer (some ⟨b, 0, none⟩), .int .i64 v] w (VGives B b (l ++ bitsM v 1) (bitsC v 1) w) := by
  have c0 : w.cell? ⟨b, 0, none⟩ = some (.bool true) := hV.elim fun _ h => h.blk.cell 0
  unfold bitsM bitsC
  by_cases hv : v = 0 ∨ v = 1
  · have e : okB v 1 = true := by rw [put_ok]; simpa using hv
    have e2 : Bi.dig v (1 : Int).toNat = [v] := by rcases hv with rfl | rfl; exact dig0; exact dig1
    rw [e, if_pos rfl, if_pos rfl, e2]
    exact vput_y w B b l v hV hv (by omega)
  · have e : okB v 1 = false := by rw [put_ok]; simpa using hv
    have q0 : (v == 0) = false := by simp; omega
    have q1 : (v == 1) = false := by simp; omega
    have q2 : (v != 0) = true := by simp; omega
    have q3 : (v != 1) = true := by simp; omega
    rw [e]
    clear hv e
    go_enter Try.func52, Try.ntmps52
    go_wp2_with fail
    go_ret
    simpa using vsame hV 1
set_option maxHeartbeats 1000000 in
theorem vuna_c (w : World) (B b : Nat) (l : List Int) (v : Int) (hV : Vr w B b l) (hc : l.length + 70000 ≤ 1000000000) :
    Calls Try.prog 55 #[.pointer (some ⟨b, 0, none⟩), .int .i64 v] w (VGives B b (l ++ unaM v) (unaC v) w) := by
  have c0 : w.cell? ⟨b, 0, none⟩ = some (.bool true) := hV.elim fun _ h => h.blk.cell 0
  unfold unaM unaC
  by_cases h1 : v < 0
  · have ho : unB v = false := by simp [unB]; omega
    rw [ho]
    go_enter Try.func55, Try.ntmps55
    go_wp2_with fail
    go_ret
    simpa using vsame hV 1
  by_cases h2 : 65535 < v
  · have ho : unB v = false := by simp [unB]; omega
    rw [ho]
    go_enter Try.func55, Try.ntmps55
    go_wp2_with fail
    go_ret
    simpa using vsame hV 1
  obtain ⟨n, rfl⟩ : ∃ n : Nat, v = n := ⟨v.toNat, by omega⟩
  have hn : n ≤ 65535 := by omega
  have ho : unB (n : Int) = true := by simp [unB]; omega
  rw [ho]
  clear ho
  obtain ⟨i0, hi, hz0, hz1, hz2⟩ := info_parts infoI
  go_enter Try.func55, Try.ntmps55
  go_wp2_with fail
  go_loopw [5] (fun i wr => ∃ k : Nat, k ≤ n ∧ i = .int .i64 (k : Int) ∧ Vr wr B b (l ++ List.replicate k 1) ∧ Kp b w wr) (fun i _ => n - (intOf i).toNat)
  case atStart => exact ⟨0, Nat.zero_le _, rfl, by simpa using hV, Kp.refl b w⟩
  case round =>
    obtain ⟨k, hk, rfl, hR, hK⟩ := hrel
    have hll : (l ++ List.replicate k 1).length ≤ 999999998 := by simp; omega
    obtain ⟨L, hL⟩ : ∃ L, L = l ++ List.replicate k 1 := ⟨_, rfl⟩
    rw [← hL] at hR hll
    have HLL := Lib.hid hL
    clear hL
    by_cases hlt : k < n
    · obtain ⟨sv, hV1⟩ := hR
      have c1 : wr.cell? ⟨b, 1, none⟩ = some sv := hV1.blk.cell 1
      have hO := hV1.own
      have hBs : B ≤ wr.heap.size := by have := hV1.ge; have := hV1.blk.lt; omega
      have HL := Lib.hid hll
      have HV := Lib.hid hV1
      clear hV1
      go_wp2_with (first | (at_builtin; refine wpList_append_own_at _ rfl _ _ 69 rfl B 3 i0 (.int .i64 0) 1 8 Try.underlying69 hi hz0 hz1 hz2 rfl (by decide) _ _ _ rfl (own_below hO ((Below.refl _ _).alloc (Nat.le_refl _) _)) ⟨wr.heap.size, 0, none⟩ 1 1 [.int .i64 1] rfl rfl (one_new8 _ _ _) (oneOne _) (by unfold maxLen; omega) (by omega) (by simp; omega) ?_))
      intro v' w2 hown hgrow _ hat
      obtain ⟨s', m', rfl⟩ := own_slice hown
      obtain ⟨x1, x2, x3, x4, x5⟩ := vgrow HV.out hown hgrow (by simpa using hat)
      clear hown hgrow hat hO c1
      go_wp2_with fail
      go_roundw
      case rel => exact ⟨k + 1, by omega, by go_num, by rw [List.replicate_succ', ← List.append_assoc, ← HLL.out]; exact x1, hK.trans x2⟩
      case measure => simp [intOf]; omega
    · obtain rfl : k = n := by omega
      obtain ⟨sv, hV1⟩ := hR
      have c1 : wr.cell? ⟨b, 1, none⟩ = some sv := hV1.blk.cell 1
      have hO := hV1.own
      have hBs : B ≤ wr.heap.size := by have := hV1.ge; have := hV1.blk.lt; omega
      have HL := Lib.hid hll
      have HV := Lib.hid hV1
      clear hV1
      go_wp2_with (first | (at_builtin; refine wpList_append_own_at _ rfl _ _ 69 rfl B 3 i0 (.int .i64 0) 1 8 Try.underlying69 hi hz0 hz1 hz2 rfl (by decide) _ _ _ rfl (own_below hO ((Below.refl _ _).alloc (Nat.le_refl _) _)) ⟨wr.heap.size, 0, none⟩ 1 1 [.int .i64 0] rfl rfl (one_new8 _ _ _) (oneOne _) (by unfold maxLen; omega) (by omega) (by simp; omega) ?_))
      intro v' w2 hown hgrow _ hat
      obtain ⟨s', m', rfl⟩ := own_slice hown
      obtain ⟨x1, x2, x3, x4, x5⟩ := vgrow HV.out hown hgrow (by simpa using hat)
      clear hown hgrow hat hO c1
      go_wp2_with fail
      go_ret
      exact ⟨rfl, by simp only [Bi.una]; rw [← List.append_assoc, ← HLL.out]; exact x1, hK.trans x2⟩
theorem shr_pos {v : Int} {k K : Nat} (h1 : 2 ^ (K - 1) ≤ v) (hK : 1 ≤ K) (hk : k + 1 < K) : 0 < v / 2 ^ (k + 1) := by
  have hp : (2 : Int) ^ (k + 1) ≤ 2 ^ (K - 1) := by
    have : 2 ^ (k + 1) ≤ 2 ^ (K - 1) := Nat.pow_le_pow_right (by omega) (by omega)
    exact_mod_cast this
  have h0 : (0 : Int) < 2 ^ (k + 1) := Int.pow_pos (by decide)
  have := (Int.le_ediv_iff_mul_le (a := 1) (b := v) h0).2 (by omega)
  omega
theorem shr_zero {v : Int} {K : Nat} (h0 : 0 ≤ v) (h1 : v < 2 ^ K) : v / 2 ^ K = 0 := Int.ediv_eq_zero_of_lt h0 h1
set_option maxHeartbeats 1000000 in
theorem vgam_c (w : World) (B b : Nat) (l : List Int) (v : Int) (hV : Vr w B b l) (hc : l.length + 70000 ≤ 1000000000) :
    Calls Try.prog 54 #[.pointer (some ⟨b, 0, none⟩), .int .i64 v] w (VGives B b (l ++ gamM v) (gamC v) w) := by
  have c0 : w.cell? ⟨b, 0, none⟩ = some (.bool true) := hV.elim fun _ h => h.blk.cell 0
  unfold gamM gamC
  by_cases h1 : v < 1
  · have ho : gamB v = false := by simp [gamB]; omega
    rw [ho]
    go_enter Try.func54, Try.ntmps54
    go_wp2_with fail
    go_ret
    simpa using vsame hV 1
  by_cases h2 : v < 4294967296
  · have ho : gamB v = true := by simp [gamB]; omega
    rw [ho]
    have hb := bl_bd (n := v.toNat) (by omega) (by omega)
    obtain ⟨K, hK⟩ : ∃ K, K = Lib.bitLen v.toNat := ⟨_, rfl⟩
    rw [← hK] at hb
    obtain ⟨b1, b2, b3, b4⟩ := hb
    have hv0 : 0 ≤ v := by omega
    have p3 : (2 : Int) ^ (K - 1) ≤ v := by have e : (2 : Int) ^ (K - 1) = ((2 ^ (K - 1) : Nat) : Int) := by simp
                                            rw [e]; omega
    have p4 : v < (2 : Int) ^ K := by have e : (2 : Int) ^ K = ((2 ^ K : Nat) : Int) := by simp
                                      rw [e]; omega
    have hgam : Hid (Bi.gam v = List.replicate (K - 1) 0 ++ Bi.dig v K) := by
      show _ = _
      rw [← Bi.dig_lead hv0 p4, Bi.gam, ← hK]
      congr 1
      omega
    have P3 := Lib.hid p3
    have P4 := Lib.hid p4
    have hok : okB v (K : Int) = true := by simp [okB]; exact ⟨by omega, hv0, p4⟩
    have HOK := Lib.hid hok
    clear ho hK b3 b4 p3 p4 hok
    have hdc : decide ((4294967296 : Int) ≤ v) = false := by simp; omega
    obtain ⟨i0, hi, hz0, hz1, hz2⟩ := info_parts infoI
    go_enter Try.func54, Try.ntmps54
    go_wp2_with fail
    go_loop [5] (fun i => ∃ k : Nat, k + 1 ≤ K ∧ i = .int .i64 (k : Int)) (fun i => K - (intOf i).toNat)
    case atStart => exact ⟨0, by omega, rfl⟩
    case round =>
      obtain ⟨k, hk, rfl⟩ := hrel
      have hku : IntKind.u64.wrap ((k : Int) + 1) = (k : Int) + 1 := by rw [IntKind.wrap_u64]; omega
      by_cases hlt : k + 1 < K
      · have hsp := shr_pos P3.out b1 hlt
        have hsd : decide ((0 : Int) < v / 2 ^ (k + 1)) = true := decide_eq_true hsp
        go_wp2_with fail
        go_round
        case rel => exact ⟨k + 1, by omega, by go_num⟩
        case measure => simp [intOf]; omega
      · obtain rfl : K = k + 1 := by omega
        have hsz := shr_zero hv0 P4.out
        clear hlt hk
        go_wp2_with fail
        clear hsz
        go_loopw [6] (fun i wr => ∃ j : Nat, j ≤ k ∧ i = .int .i64 (j : Int) ∧ Vr wr B b (l ++ List.replicate j 0) ∧ Kp b w wr) (fun i _ => k - (intOf i).toNat)
        case atStart => exact ⟨0, Nat.zero_le _, rfl, by simpa using hV, Kp.refl b w⟩
        case round =>
          obtain ⟨j, hj, rfl, hR, hKp⟩ := hrel
          have hll : (l ++ List.replicate j 0).length ≤ 999999998 := by simp; omega
          by_cases hlt : j < k
          · have c0 : wr.cell? ⟨b, 0, none⟩ = some (.bool true) := hR.elim fun _ h => h.blk.cell 0
            obtain ⟨L, hL⟩ : ∃ L, L = l ++ List.replicate j (0 : Int) := ⟨_, rfl⟩
            rw [← hL] at hR hll
            have HLL := Lib.hid hL
            clear hL
            obtain ⟨sv, hV1⟩ := hR
            have c1 : wr.cell? ⟨b, 1, none⟩ = some sv := hV1.blk.cell 1
            have hO := hV1.own
            have hBs : B ≤ wr.heap.size := by have := hV1.ge; have := hV1.blk.lt; omega
            have HL := Lib.hid hll
            have HV := Lib.hid hV1
            clear hV1
            go_wp2_with (first | (at_builtin; refine wpList_append_own_at _ rfl _ _ 69 rfl B 3 i0 (.int .i64 0) 1 8 Try.underlying69 hi hz0 hz1 hz2 rfl (by decide) _ _ _ rfl (own_below hO ((Below.refl _ _).alloc (Nat.le_refl _) _)) ⟨wr.heap.size, 0, none⟩ 1 1 [.int .i64 0] rfl rfl (one_new8 _ _ _) (oneOne _) (by unfold maxLen; omega) (by omega) (by simp; omega) ?_))
            intro v' w2 hown hgrow _ hat
            obtain ⟨s', m', rfl⟩ := own_slice hown
            obtain ⟨x1, x2, x3, x4, x5⟩ := vgrow HV.out hown hgrow (by simpa using hat)
            clear hown hgrow hat hO c1
            go_wp2_with fail
            go_roundw
            case rel => exact ⟨j + 1, by omega, by go_num, by rw [List.replicate_succ', ← List.append_assoc, ← HLL.out]; exact x1, hKp.trans x2⟩
            case measure => simp [intOf]; omega
          · obtain rfl : j = k := by omega
            have hB := vbits_c wr B b _ v (j + 1 : Nat) hR (by simp; omega)
            rw [bitsM, bitsC, if_pos HOK.out, if_pos HOK.out] at hB
            have hB2 : Calls Try.prog 53 #[.pointer (some ⟨b, 0, none⟩), .int .i64 v, .int .i64 ((j : Int) + 1)] wr (VGives B b (l ++ List.replicate j 0 ++ Bi.dig v (j + 1)) 0 wr) := hB
            clear hB hll hlt
            go_wp2_with (first | (go_at_call 53; refine hB2.mono ?_; rintro e wn ⟨rfl, hR1, hK1⟩))
            go_ret
            exact ⟨rfl, by rw [hgam.out, ← List.append_assoc]; exact hR1, hKp.trans hK1⟩
  · have ho : gamB v = false := by simp [gamB]; omega
    rw [ho]
    go_enter Try.func54, Try.ntmps54
    go_wp2_with fail
    go_ret
    simpa using vsame hV 1
set_option maxHeartbeats 1000000 in
theorem writeR_c (w : World) (B a : Nat) (l : List Int) (k v n : Int) (hV : Vr w B a l) (hc : l.length + 70000 ≤ 1000000000) :
    Calls Try.prog 21 #[.pointer (some ⟨a, 0, none⟩), .agg #[.int .i64 k, .int .i64 v, .int .i64 n]] w (VGives B a (l ++ wrM k v n) (wrE k v n) w) := by
  have hA : Below w.heap.size w (w.alloc (.cells #[.int .i64 k, .int .i64 v, .int .i64 n] 38)) := (Below.refl _ _).alloc (Nat.le_refl _) _
  have hV1 := hV.below hA
  have hK := Kp.of_below hA hV.lt
  have h0 := vput_c _ B a l v hV1 (by omega)
  have h1 := vbits_c _ B a l v n hV1 (by omega)
  have h2 := vgam_c _ B a l v hV1 (by omega)
  have h3 := vuna_c _ B a l v hV1 (by omega)
  unfold wrM wrE
  by_cases e0 : k = 0
  · subst e0
    go_enter Try.func21, Try.ntmps21
    go_wp2_with (first | (go_at_call 52; refine h0.mono ?_; rintro e wn ⟨rfl, hR1, hK1⟩))
    go_ret
    exact ⟨rfl, by simpa using hR1, hK.trans hK1⟩
  by_cases e1 : k = 1
  · subst e1
    go_enter Try.func21, Try.ntmps21
    go_wp2_with (first | (go_at_call 53; refine h1.mono ?_; rintro e wn ⟨rfl, hR1, hK1⟩))
    go_ret
    exact ⟨rfl, by simpa using hR1, hK.trans hK1⟩
  by_cases e2 : k = 2
  · subst e2
    go_enter Try.func21, Try.ntmps21
    go_wp2_with (first | (go_at_call 54; refine h2.mono ?_; rintro e wn ⟨rfl, hR1, hK1⟩))
    go_ret
    exact ⟨rfl, by simpa using hR1, hK.trans hK1⟩
  by_cases e3 : k = 3
  · subst e3
    go_enter Try.func21, Try.ntmps21
    go_wp2_with (first | (go_at_call 55; refine h3.mono ?_; rintro e wn ⟨rfl, hR1, hK1⟩))
    go_ret
    exact ⟨rfl, by simpa using hR1, hK.trans hK1⟩
  · have q0 : (k == 0) = false := by simpa using e0
    have q1 : (k == 1) = false := by simpa using e1
    have q2 : (k == 2) = false := by simpa using e2
    have q3 : (k == 3) = false := by simpa using e3
    rw [if_neg e0, if_neg e1, if_neg e2, if_neg e3, if_neg e0, if_neg e1, if_neg e2, if_neg e3]
    clear e0 e1 e2 e3
    go_enter Try.func21, Try.ntmps21
    go_wp2_with fail
    go_ret
    exact ⟨rfl, by simpa using hV1, hK⟩
end Go.Proofs.Ytaddendclipkkaa
