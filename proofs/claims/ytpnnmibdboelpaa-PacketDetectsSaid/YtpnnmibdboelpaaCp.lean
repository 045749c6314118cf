/-
  Layer 27: contract of head, reference.
-/
import Derived.Test.YtpnnmibdboelpaaCo
set_option maxRecDepth 100000
namespace Go.Proofs.Ytpnnmibdboelpaa
open Go.RowKit

theorem or_low (n : Nat) (v x : Int) (h0 : 0 ≤ v) (hn : n ≤ 32) (h1 : v < 1073741824) (hx : 0 ≤ x ∧ x < 2 ^ n) : bits .or .i64 (v * 2 ^ n) x = v * 2 ^ n + x := by
  obtain ⟨k, rfl⟩ : ∃ k : Nat, v = k := ⟨v.toNat, by omega⟩
  obtain ⟨c, rfl⟩ : ∃ c : Nat, x = c := ⟨x.toNat, by omega⟩
  have hc : c < 2 ^ n := by have := hx.2; exact_mod_cast this
  have hp : 2 ^ n ≤ 4294967296 := by
    have := Nat.pow_le_pow_right (show 0 < 2 by omega) hn
    simpa using this
  have hk : k < 1073741824 := by omega
  have hkn : 2 ^ n * k < 4611686018427387904 := by
    have := Nat.mul_le_mul hp (show k ≤ 1073741823 by omega)
    omega
  have hb : ((k : Int) * 2 ^ n) = ((2 ^ n * k : Nat) : Int) := by rw [Nat.mul_comm]; simp
  have h2 : (BitVec.ofInt 64 ((k : Int) * 2 ^ n) ||| BitVec.ofInt 64 (c : Int)).toNat = 2 ^ n * k + c := by
    rw [hb, BitVec.toNat_or, BitVec.toNat_ofInt, BitVec.toNat_ofInt]
    have e1 : (((2 ^ n * k : Nat) : Int) % ((2 ^ 64 : Nat) : Int)).toNat = 2 ^ n * k := by
      generalize 2 ^ n * k = y at *; omega
    have e2 : ((c : Int) % ((2 ^ 64 : Nat) : Int)).toNat = c := by omega
    rw [e1, e2, ← Nat.two_pow_add_eq_or_of_lt hc k]
  show IntKind.i64.wrap ((BitVec.ofInt 64 ((k : Int) * 2 ^ n) ||| BitVec.ofInt 64 (c : Int)).toNat : Int) = _
  rw [h2, hb]
  generalize 2 ^ n * k = y at *
  rw [IntWalk.i64_in _ (by omega)]
  omega
theorem or2 (x y : Int) (hx : 0 ≤ x ∧ x ≤ 255) (hy : 0 ≤ y ∧ y ≤ 255) : bits .or .i64 (x * 256) y = x * 256 + y := or_low64 x y hx.1 (by omega) hy
theorem or4 (x y z u : Int) (hx : 0 ≤ x ∧ x ≤ 255) (hy : 0 ≤ y ∧ y ≤ 255) (hz : 0 ≤ z ∧ z ≤ 255) (hu : 0 ≤ u ∧ u ≤ 255) :
    bits .or .i64 (bits .or .i64 (bits .or .i64 (x * 16777216) (y * 65536)) (z * 256)) u = ((x * 256 + y) * 256 + z) * 256 + u := by
  have a := or_low 24 x (y * 65536) hx.1 (by omega) (by omega) (by omega)
  have b := or_low 16 (x * 256 + y) (z * 256) (by omega) (by omega) (by omega) (by omega)
  have c := or_low 8 ((x * 256 + y) * 256 + z) u (by omega) (by omega) (by omega) (by omega)
  have d : (((x * 256 + y) * 256 + z) * 2 ^ 8 : Int) = ((x * 256 + y) * 256 + z) * 256 := by omega
  rw [show (x * 16777216 : Int) = x * 2 ^ 24 by omega, a, show (x * 2 ^ 24 + y * 65536 : Int) = (x * 256 + y) * 2 ^ 16 by omega, b, show ((x * 256 + y) * 2 ^ 16 + z * 256 : Int) = ((x * 256 + y) * 256 + z) * 2 ^ 8 by omega, c, d]
theorem at_facts (A L k : Nat) (K : Int) (hK : K = (k : Int)) (h : A + k < L) (hl : L ≤ 1000000) : ((A : Int) + K).toNat = A + k ∧ (A : Int) + K < (L : Int) ∧ IntKind.i64.wrap ((A : Int) + K) = (A : Int) + K ∧ A + k < L ∧ (0 : Int) ≤ (A : Int) + K := by
  subst hK
  exact ⟨by omega, by omega, IntWalk.i64_in _ (by omega), h, by omega⟩
theorem results_4 {fn : Func} {a b c d : Tmp} (h : fn.results = #[.tmp a, .tmp b, .tmp c, .tmp d]) (tmps : Array Value) (W : World) :
    (results fn tmps).run Try.prog W = .ok (.tuple #[tmps.getD a undef, tmps.getD b undef, tmps.getD c undef, tmps.getD d undef]) W := by
  simp only [results, h]
  simp
theorem results_3 {fn : Func} {a b c : Tmp} (h : fn.results = #[.tmp a, .tmp b, .tmp c]) (tmps : Array Value) (W : World) :
    (results fn tmps).run Try.prog W = .ok (.tuple #[tmps.getD a undef, tmps.getD b undef, tmps.getD c undef]) W := by
  simp only [results, h]
  simp
theorem num_sync {x y : Int} (_hx : 0 ≤ x ∧ x ≤ 255) (hy : 0 ≤ y ∧ y ≤ 255) : x * 256 + y = 65459 ↔ x = 255 ∧ y = 179 := by omega
theorem or2w (x y : Int) (hx : 0 ≤ x ∧ x ≤ 255) (hy : 0 ≤ y ∧ y ≤ 255) : bits .or .i64 (wrap64 (wrap64 x * 256)) (wrap64 y) = x * 256 + y := by
  have e : ∀ v : Int, 0 ≤ v → v < 4294967296 → wrap64 v = v := fun v a b => IntWalk.wrap64_in v (by omega)
  rw [e x hx.1 (by omega), e y hy.1 (by omega), e (x * 256) (by omega) (by omega), or2 x y hx hy]
theorem or4w (x y z u : Int) (hx : 0 ≤ x ∧ x ≤ 255) (hy : 0 ≤ y ∧ y ≤ 255) (hz : 0 ≤ z ∧ z ≤ 255) (hu : 0 ≤ u ∧ u ≤ 255) :
    bits .or .i64 (bits .or .i64 (bits .or .i64 (wrap64 (wrap64 x * 16777216)) (wrap64 (wrap64 y * 65536))) (wrap64 (wrap64 z * 256))) (wrap64 u) = ((x * 256 + y) * 256 + z) * 256 + u := by
  have e : ∀ v : Int, 0 ≤ v → v < 4294967296 → wrap64 v = v := fun v a b => IntWalk.wrap64_in v (by omega)
  rw [e x hx.1 (by omega), e y hy.1 (by omega), e z hz.1 (by omega), e u hu.1 (by omega), e (x * 16777216) (by omega) (by omega), e (y * 65536) (by omega) (by omega), e (z * 256) (by omega) (by omega), or4 x y z u hx hy hz hu]
def GivesHd (r : Rm) (w : World) (e : Ending) (w' : World) : Prop := e = .returned (.tuple #[.int .i64 r.q, .int .i64 r.n, .int .i64 r.c, .int .i64 r.e]) ∧ Below w.heap.size w w'
theorem sub2 {bs : List Int} {A k : Nat} (h : A + k + 2 ≤ bs.length) : Mk.num (sub bs A k 2) = bs.getD (A + k) 0 * 256 + bs.getD (A + (k + 1)) 0 := by
  have e : sub bs A k 2 = [bs.getD (A + k) 0, bs.getD (A + (k + 1)) 0] := by
    apply List.ext_getElem
    · rw [sub_len h]; rfl
    · intro i h1 h2
      simp only [List.length_cons, List.length_nil] at h2
      match i, h2 with
      | 0, _ => simp [sub, List.getElem?_eq_getElem (show A + k < bs.length by omega)]
      | 1, _ => simp [sub, ← Nat.add_assoc, List.getElem?_eq_getElem (show A + k + 1 < bs.length by omega)]
  rw [e]; simp [Mk.num]
theorem sub4 {bs : List Int} {A k : Nat} (h : A + k + 4 ≤ bs.length) : Mk.num (sub bs A k 4) = ((bs.getD (A + k) 0 * 256 + bs.getD (A + (k + 1)) 0) * 256 + bs.getD (A + (k + 2)) 0) * 256 + bs.getD (A + (k + 3)) 0 := by
  have e : sub bs A k 4 = [bs.getD (A + k) 0, bs.getD (A + (k + 1)) 0, bs.getD (A + (k + 2)) 0, bs.getD (A + (k + 3)) 0] := by
    apply List.ext_getElem
    · rw [sub_len h]; rfl
    · intro i h1 h2
      simp only [List.length_cons, List.length_nil] at h2
      match i, h2 with
      | 0, _ => simp [sub, List.getElem?_eq_getElem (show A + k < bs.length by omega)]
      | 1, _ => simp [sub, ← Nat.add_assoc, List.getElem?_eq_getElem (show A + k + 1 < bs.length by omega)]
      | 2, _ => simp [sub, ← Nat.add_assoc, List.getElem?_eq_getElem (show A + k + 2 < bs.length by omega)]
      | 3, _ => simp [sub, ← Nat.add_assoc, List.getElem?_eq_getElem (show A + k + 3 < bs.length by omega)]
  rw [e]; simp [Mk.num]
theorem getD_bd {bs : List Int} (h : Mk.bytes bs) (k : Nat) : 0 ≤ bs.getD k 0 ∧ bs.getD k 0 ≤ 255 := by
  by_cases hk : k < bs.length
  · rw [List.getD_eq_getElem?_getD, List.getElem?_eq_getElem hk]
    exact h _ (List.getElem_mem _)
  · rw [List.getD_eq_getElem?_getD, List.getElem?_eq_none (by omega)]
    simp
set_option maxHeartbeats 2000000 in
theorem rhead_c (bs : List Int) (s : Option Addr) (m : Nat) (a : Int) (w : World) (hH : HoldsB w s bs) (hB : Mk.bytes bs) (hl : bs.length ≤ 1000000) (h0 : 0 ≤ a) (h1 : a ≤ bs.length) :
    Calls Try.prog 26 #[.slice s bs.length m, .int .i64 a] w (GivesHd (rm bs a) w) := by
  rcases rm_cases bs a with ⟨h, e⟩ | ⟨h, h2, e⟩ | ⟨h, h2, h3, e⟩ | ⟨A, rfl, hA, hc⟩
  · omega
  · omega
  · rw [e]
    have d1 : decide ((bs.length : Int) - a < 11) = true := decide_eq_true h3
    clear e
    go_enter Try.func26, Try.ntmps26
    go_wp2_with fail
    refine bodyPost_ret (results_4 rfl _ _) rfl ?_
    exact ⟨rfl, Below.refl _ _⟩
  · have d1 : decide ((bs.length : Int) - (A : Int) < 11) = false := decide_eq_false (by omega)
    obtain ⟨b, off, rfl, hr⟩ : ∃ b off, s = some ⟨b, off, none⟩ ∧ ∀ k (_ : k < bs.length), w.cell? ⟨b, off + k, none⟩ = some (.int .u8 bs[k]) := by
      rcases hH with h | h
      · exfalso; rw [h] at hA; simp at hA
      · exact h
    have hx : ∀ k, k < 11 → w.cell? ⟨b, off + (A + k), none⟩ = some (.int .u8 (bs.getD (A + k) 0)) := fun k hk => by
      rw [hr (A + k) (by omega), List.getD_eq_getElem?_getD, List.getElem?_eq_getElem (show A + k < bs.length by omega)]
      rfl
    have x0 := hx 0 (by omega)
    have x1 := Lib.hid (hx 1 (by omega))
    have x2 := Lib.hid (hx 2 (by omega))
    have x3 := Lib.hid (hx 3 (by omega))
    have x4 := Lib.hid (hx 4 (by omega))
    have x5 := Lib.hid (hx 5 (by omega))
    have x6 := Lib.hid (hx 6 (by omega))
    have x7 := Lib.hid (hx 7 (by omega))
    have x8 := Lib.hid (hx 8 (by omega))
    have x9 := Lib.hid (hx 9 (by omega))
    have x10 := Lib.hid (hx 10 (by omega))
    have kc := fun n => rcheck_c bs (some ⟨b, off, none⟩) m A (w.drewN n) (hH.call (drewN_below'' w n)) hB (by omega) hl
    have b0 := Lib.hid (getD_bd hB (A + 0))
    have b1 := Lib.hid (getD_bd hB (A + 1))
    have b2 := Lib.hid (getD_bd hB (A + 2))
    have b3 := Lib.hid (getD_bd hB (A + 3))
    have b4 := Lib.hid (getD_bd hB (A + 4))
    have b5 := Lib.hid (getD_bd hB (A + 5))
    have b6 := Lib.hid (getD_bd hB (A + 6))
    have b7 := Lib.hid (getD_bd hB (A + 7))
    have b8 := Lib.hid (getD_bd hB (A + 8))
    have b9 := Lib.hid (getD_bd hB (A + 9))
    rw [sub2 (by omega), sub2 (by omega), sub4 (by omega), sub2 (by omega)] at hc
    rw [show sub bs A 0 10 = (bs.drop A).take 10 by unfold sub; rfl] at hc
    clear hr hx hH
    have HA := Lib.hid hA
    have HL := Lib.hid hl
    have F1 := Lib.hid (at_facts A bs.length 1 1 rfl (Nat.lt_of_lt_of_le (Nat.add_lt_add_left (by decide) A) hA) hl)
    have F2 := Lib.hid (at_facts A bs.length 2 2 rfl (Nat.lt_of_lt_of_le (Nat.add_lt_add_left (by decide) A) hA) hl)
    have F3 := Lib.hid (at_facts A bs.length 3 3 rfl (Nat.lt_of_lt_of_le (Nat.add_lt_add_left (by decide) A) hA) hl)
    have F4 := Lib.hid (at_facts A bs.length 4 4 rfl (Nat.lt_of_lt_of_le (Nat.add_lt_add_left (by decide) A) hA) hl)
    have F5 := Lib.hid (at_facts A bs.length 5 5 rfl (Nat.lt_of_lt_of_le (Nat.add_lt_add_left (by decide) A) hA) hl)
    have F6 := Lib.hid (at_facts A bs.length 6 6 rfl (Nat.lt_of_lt_of_le (Nat.add_lt_add_left (by decide) A) hA) hl)
    have F7 := Lib.hid (at_facts A bs.length 7 7 rfl (Nat.lt_of_lt_of_le (Nat.add_lt_add_left (by decide) A) hA) hl)
    have F8 := Lib.hid (at_facts A bs.length 8 8 rfl (Nat.lt_of_lt_of_le (Nat.add_lt_add_left (by decide) A) hA) hl)
    have F9 := Lib.hid (at_facts A bs.length 9 9 rfl (Nat.lt_of_lt_of_le (Nat.add_lt_add_left (by decide) A) hA) hl)
    have F10 := Lib.hid (at_facts A bs.length 10 10 rfl (Nat.lt_of_lt_of_le (Nat.add_lt_add_left (by decide) A) hA) hl)
    have l0 : (A : Int) < (bs.length : Int) := Int.ofNat_lt.2 (Nat.lt_of_lt_of_le (Nat.lt_add_of_pos_right (by decide)) hA)
    have v0 : A < bs.length := Nat.lt_of_lt_of_le (Nat.lt_add_of_pos_right (by decide)) hA
    clear hA hl h0 h1
    generalize bs.getD (A + 0) 0 = y0 at *
    rw [Nat.add_zero] at x0
    generalize bs.getD (A + 1) 0 = y1 at *
    generalize bs.getD (A + 2) 0 = y2 at *
    generalize bs.getD (A + 3) 0 = y3 at *
    generalize bs.getD (A + 4) 0 = y4 at *
    generalize bs.getD (A + 5) 0 = y5 at *
    generalize bs.getD (A + 6) 0 = y6 at *
    generalize bs.getD (A + 7) 0 = y7 at *
    generalize bs.getD (A + 8) 0 = y8 at *
    generalize bs.getD (A + 9) 0 = y9 at *
    generalize bs.getD (A + 10) 0 = y10 at *
    generalize chk ((bs.drop A).take 10) = Y at *
    rcases hc with ⟨h, e⟩ | ⟨h, h2, e⟩ | ⟨h, h2, e⟩
    · rw [e]
      clear e
      have hA := HA.out
      have hl := HL.out
      by_cases hy : y0 = 255
      · have hz : y1 ≠ 179 := fun z => h ((num_sync b0.out b1.out).2 ⟨hy, z⟩)
        subst hy
        have c1 : (y1 != 179) = true := by simpa using hz
        clear hz h
        obtain ⟨p1, l1, u1, v1, z1⟩ := F1.out
        have X1 := x1.out
        go_enter Try.func26, Try.ntmps26
        go_wp2_with fail
        refine bodyPost_ret (results_4 rfl _ _) rfl ?_
        exact ⟨rfl, Below.refl _ _⟩
      · have c1 : (y0 != 255) = true := by simpa using hy
        clear h
        go_enter Try.func26, Try.ntmps26
        go_wp2_with fail
        refine bodyPost_ret (results_4 rfl _ _) rfl ?_
        exact ⟨rfl, Below.refl _ _⟩
    · rw [e]
      clear e
      obtain ⟨rfl, rfl⟩ := (num_sync b0.out b1.out).1 h
      have c1 : (y10 != Y) = true := by simpa using h2
      clear h h2
      obtain ⟨p1, l1, u1, v1, z1⟩ := F1.out
      have X1 := x1.out
      have hA := HA.out
      have hl := HL.out
      go_enter Try.func26, Try.ntmps26
      go_upto_region 5 with fail
      clear hA hl p1 l1 u1 v1 z1 X1
      obtain ⟨p10, l10, u10, v10, z10⟩ := F10.out
      have X10 := x10.out
      go_quiet ((go_at_call 23; with_reducible exact Calls.quiet_of_same ((kc _).mono fun e w' z => ⟨z.1, z.2.symm⟩)))
      go_wp2_with fail
      refine bodyPost_ret (results_4 rfl _ _) rfl ?_
      exact ⟨rfl, drewN_below'' w _⟩
    · rw [e]
      clear e
      obtain ⟨rfl, rfl⟩ := (num_sync b0.out b1.out).1 h
      obtain rfl := h2
      obtain ⟨p1, l1, u1, v1, z1⟩ := F1.out
      have X1 := x1.out
      have hA := HA.out
      have hl := HL.out
      go_enter Try.func26, Try.ntmps26
      go_upto_region 5 with fail
      clear hA hl p1 l1 u1 v1 z1 X1
      obtain ⟨p10, l10, u10, v10, z10⟩ := F10.out
      have X10 := x10.out
      go_quiet ((go_at_call 23; with_reducible exact Calls.quiet_of_same ((kc _).mono fun e w' z => ⟨z.1, z.2.symm⟩)))
      go_upto_region 7 with fail
      clear p10 l10 u10 v10 z10 X10
      obtain ⟨p2, l2, u2, v2, z2⟩ := F2.out
      have X2 := x2.out
      obtain ⟨p3, l3, u3, v3, z3⟩ := F3.out
      have X3 := x3.out
      go_quiet (fail)
      go_upto_region 8 with fail
      clear p2 l2 u2 v2 z2 X2 p3 l3 u3 v3 z3 X3
      obtain ⟨p4, l4, u4, v4, z4⟩ := F4.out
      have X4 := x4.out
      obtain ⟨p5, l5, u5, v5, z5⟩ := F5.out
      have X5 := x5.out
      obtain ⟨p6, l6, u6, v6, z6⟩ := F6.out
      have X6 := x6.out
      obtain ⟨p7, l7, u7, v7, z7⟩ := F7.out
      have X7 := x7.out
      go_quiet (fail)
      go_upto_region 9 with fail
      clear p4 l4 u4 v4 z4 X4 p5 l5 u5 v5 z5 X5 p6 l6 u6 v6 z6 X6 p7 l7 u7 v7 z7 X7
      obtain ⟨p8, l8, u8, v8, z8⟩ := F8.out
      have X8 := x8.out
      obtain ⟨p9, l9, u9, v9, z9⟩ := F9.out
      have X9 := x9.out
      go_quiet (fail)
      go_wp2_with fail
      refine bodyPost_ret (results_4 rfl _ _) rfl ?_
      refine ⟨?_, ((((drewN_below'' w _).trans ((drewN_below'' _ _).mono (drewN_below'' w _).size)).trans ((drewN_below'' _ _).mono ((drewN_below'' w _).trans ((drewN_below'' _ _).mono (drewN_below'' w _).size)).size)).trans ((drewN_below'' _ _).mono (((drewN_below'' w _).trans ((drewN_below'' _ _).mono (drewN_below'' w _).size)).trans ((drewN_below'' _ _).mono ((drewN_below'' w _).trans ((drewN_below'' _ _).mono (drewN_below'' w _).size)).size)).size))⟩
      show Ending.returned (.tuple #[.int .i64 (bits .or .i64 (wrap64 (wrap64 y2 * 256)) (wrap64 y3)), .int .i64 (bits .or .i64 (bits .or .i64 (bits .or .i64 (wrap64 (wrap64 y4 * 16777216)) (wrap64 (wrap64 y5 * 65536))) (wrap64 (wrap64 y6 * 256))) (wrap64 y7)), .int .i64 (bits .or .i64 (wrap64 (wrap64 y8 * 256)) (wrap64 y9)), .int .i64 0]) = _
      rw [or2w _ _ b2.out b3.out, or2w _ _ b8.out b9.out, or4w _ _ _ _ b4.out b5.out b6.out b7.out]
end Go.Proofs.Ytpnnmibdboelpaa
