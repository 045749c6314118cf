/-
  What lift's functions and the reference's return is one; what Inverse makes of Forward's results and the other way; the chapter's examples.
-/
import Derived.Test.YtpobmmdjcfdfoaaLiftC
import Derived.Test.YtpobmmdjcfdfoaaExtB
namespace Go.Proofs.Ytpobmmdjcfdfoaa
open Go.RowKit

theorem fw_sp {l : List Int} {st kn : Int} (h : fwB l st = true) : spB st (Ex.fwdL st l kn).length = true := by
  obtain ⟨⟨h1, h2, h3⟩, _⟩ := fw_iff.1 h
  exact sp_iff.2 ⟨h1, h2, by rw [Ex.fwd_len]; exact h3⟩
theorem fwd_both (l : List Int) (st kn : Int) (s : Option Addr) (m : Nat) (hs : s = none → l.length = 0 ∧ m = 0) (hl : l.length ≤ 140737488351232) :
    ∃ (E O : List Int) (err : Int), E.length ≤ 4096 ∧ O.length ≤ 4096 ∧ (∀ w : World, HoldsI w s l → Calls Try.prog 31 #[.slice s l.length m, .int .i64 st, .int .i64 kn] w (GivesSplit E O err w)) ∧ (∀ w : World, HoldsI w s l → Calls Try.prog 32 #[.slice s l.length m, .int .i64 st, .int .i64 kn] w (GivesSplit E O err w)) := by
  cases hk : kB kn with
  | false => exact ⟨_, _, _, Nat.zero_le _, Nat.zero_le _, fun w _ => fwd_cno1 l st kn s m w hk, fun w _ => fwd_no1 l st kn s m w hk⟩
  | true =>
    cases hh : fwB l st with
    | false => exact ⟨_, _, _, Nat.zero_le _, Nat.zero_le _, fun w hH => fwd_cno2 l st kn s m w hk hh hl hH, fun w hH => fwd_no2 l st kn s m w hk hh hl hH⟩
    | true => exact ⟨_, _, _, (split_le (fw_sp hh)).1, (split_le (fw_sp hh)).2, fun w hH => fwd_cyes l st kn s m w hk hh hs hH, fun w hH => fwd_yes l st kn s m w hk hh hs hH⟩
theorem inv_both (e o : List Int) (st kn : Int) (s t : Option Addr) (m m' : Nat) (hm : e.length ≤ m) (hm' : o.length ≤ m') (he : e.length ≤ 4611686018427387904) (ho : o.length ≤ 4611686018427387904) :
    ∃ (L : List Int) (err : Int), L.length ≤ 4096 ∧ (∀ w : World, HoldsI w s e → HoldsI w t o → Calls Try.prog 33 #[.slice s e.length m, .slice t o.length m', .int .i64 st, .int .i64 kn] w (GivesE L err w)) ∧ (∀ w : World, HoldsI w s e → HoldsI w t o → Calls Try.prog 34 #[.slice s e.length m, .slice t o.length m', .int .i64 st, .int .i64 kn] w (GivesE L err w)) := by
  cases hk : kB kn with
  | false => exact ⟨_, _, Nat.zero_le _, fun w _ _ => inv_cno1 e o st kn s t m m' w hk, fun w _ _ => inv_no1 e o st kn s t m m' w hk⟩
  | true =>
    cases hh : jnB st e.length o.length with
    | false => exact ⟨_, _, Nat.zero_le _, fun w a b => inv_cno2 e o st kn s t m m' w hk hh he ho a b, fun w _ _ => inv_no2 e o st kn s t m m' w hk hh he ho⟩
    | true =>
      cases hf : (fewB e 1125899906842624 && fewB o 1125899906842624) with
      | false => exact ⟨_, _, Nat.zero_le _, fun w a b => inv_cno3 e o st kn s t m m' w hk hh hf a b, fun w a b => inv_no3 e o st kn s t m m' w hk hh hf a b⟩
      | true =>
        rw [Bool.and_eq_true] at hf
        cases hc : jcB st e.length o.length with
        | false => exact ⟨_, _, Nat.zero_le _, fun w a b => inv_cno4 e o st kn s t m m' w hk hh hf.1 hf.2 hc a b, fun w a b => inv_no4 e o st kn s t m m' w hk hh hf.1 hf.2 hc a b⟩
        | true => exact ⟨_, _, by rw [Ex.inv_len]; exact join_le hh, fun w a b => inv_cyes e o st kn s t m m' w hk hh hf.1 hf.2 hc hm hm' a b, fun w a b => inv_yes e o st kn s t m m' w hk hh hf.1 hf.2 hc a b⟩
theorem fwd_few {l : List Int} {st kn : Int} (hk : kB kn = true) {b : Int} (hb : 0 ≤ b) (hw : Ex.within b l) :
    Ex.within (Ex.lbI b kn) (Ex.splitE st (Ex.fwdL st l kn)) ∧ Ex.within (Ex.hbI b kn) (Ex.splitO st (Ex.fwdL st l kn)) := by
  have hkk := k_iff.1 hk
  refine ⟨fun v hv => ?_, fun v hv => ?_⟩
  · obtain ⟨j, hj, hp, rfl⟩ := Ex.splitE_mem hv
    have hj' := hj
    rw [Ex.fwd_len] at hj'
    have := (Ex.fwd_bd (s := st) hkk hb hw (i := st + (j : Int)) (by omega) (by omega)).1 hp
    rwa [Ex.sg_at hj] at this
  · obtain ⟨j, hj, hp, rfl⟩ := Ex.splitO_mem hv
    have hj' := hj
    rw [Ex.fwd_len] at hj'
    have := (Ex.fwd_bd (s := st) hkk hb hw (i := st + (j : Int)) (by omega) (by omega)).2 hp
    rwa [Ex.sg_at hj] at this
/-- Inverse of what Forward returns. -/
theorem inv_back {l : List Int} {st kn : Int} (hk : kB kn = true) (h : fwB l st = true) (s t : Option Addr) (m m' : Nat) (hm : (Ex.splitE st (Ex.fwdL st l kn)).length ≤ m) (hm' : (Ex.splitO st (Ex.fwdL st l kn)).length ≤ m') (w : World) (hE : HoldsI w s (Ex.splitE st (Ex.fwdL st l kn))) (hO : HoldsI w t (Ex.splitO st (Ex.fwdL st l kn))) :
    Calls Try.prog 33 #[.slice s (Ex.splitE st (Ex.fwdL st l kn)).length m, .slice t (Ex.splitO st (Ex.fwdL st l kn)).length m', .int .i64 st, .int .i64 kn] w (GivesE l 0 w) := by
  obtain ⟨j1, j2⟩ := jn_split (fw_sp (kn := kn) h)
  obtain ⟨_, hw⟩ := fw_iff.1 h
  obtain ⟨f1, f2⟩ := fwd_few hk (by decide) hw
  have hkk := k_iff.1 hk
  have hb1 : Ex.lbI 281474976710656 kn ≤ 1125899906842624 := by rcases hkk with rfl | rfl | rfl <;> decide
  have hb2 : Ex.hbI 281474976710656 kn ≤ 1125899906842624 := by rcases hkk with rfl | rfl | rfl <;> decide
  have hc := inv_cyes _ _ st kn s t m m' w hk j1 (few_iff.2 (within_mono f1 hb1)) (few_iff.2 (within_mono f2 hb2)) j2 hm hm' hE hO
  rw [Ex.join_split, Ex.inv_fwd] at hc
  exact hc
/-- Forward of what Inverse returns. -/
theorem fwd_back {e o : List Int} {st kn : Int} (hk : kB kn = true) (hh : jnB st e.length o.length = true) (hc : jcB st e.length o.length = true) (hw : Ex.within 281474976710656 (Ex.invL st (Ex.joinL st e o) kn)) (s : Option Addr) (m : Nat)
    (hs : s = none → (Ex.invL st (Ex.joinL st e o) kn).length = 0 ∧ m = 0) (w : World) (hH : HoldsI w s (Ex.invL st (Ex.joinL st e o) kn)) :
    Calls Try.prog 31 #[.slice s (Ex.invL st (Ex.joinL st e o) kn).length m, .int .i64 st, .int .i64 kn] w (GivesSplit e o 0 w) := by
  obtain ⟨h1, h2, h3⟩ := jn_iff.1 hh
  have hcc : Ex.cntE st (e.length + o.length) = e.length ∧ Ex.cntO st (e.length + o.length) = o.length := by simpa [jcB] using hc
  have hf := fwd_cyes _ st kn s m w hk (fw_iff.2 ⟨⟨h1, h2, by rw [Ex.inv_len, Ex.joinL_len]; exact h3⟩, hw⟩) hs hH
  obtain ⟨e1, e2⟩ := Ex.split_join (s := st) (e := e) (o := o) hcc.1.symm hcc.2.symm
  rw [Ex.fwd_inv, e1, e2] at hf
  exact hf
/-- A block that holds two slices and two numbers. -/
structure Bb (W : World) (B : Nat) (v0 v1 : Value) (st kn : Int) : Prop where
  c0 : W.cell? ⟨B, 0, none⟩ = some v0
  c1 : W.cell? ⟨B, 1, none⟩ = some v1
  c2 : W.cell? ⟨B, 2, none⟩ = some (.int .i64 st)
  c3 : W.cell? ⟨B, 3, none⟩ = some (.int .i64 kn)
  lt : B < W.heap.size
theorem Bb.below {W w1 : World} {B : Nat} {v0 v1 : Value} {st kn : Int} (h : Bb W B v0 v1 st kn) (hb : Below W.heap.size W w1) : Bb w1 B v0 v1 st kn :=
  ⟨(hb.cell (p := ⟨B, _, none⟩) h.lt).trans h.c0, (hb.cell (p := ⟨B, _, none⟩) h.lt).trans h.c1, (hb.cell (p := ⟨B, _, none⟩) h.lt).trans h.c2, (hb.cell (p := ⟨B, _, none⟩) h.lt).trans h.c3, by have := h.lt; have := hb.size; omega⟩
theorem Bb.alloc {W : World} {B : Nat} {v0 v1 : Value} {st kn : Int} (h : Bb W B v0 v1 st kn) (X : Obj) : Bb (W.alloc X) B v0 v1 st kn := h.below ((Below.refl _ _).alloc (Nat.le_refl _) X)
theorem Bb.fresh (w : World) (s t : Option Addr) (n m n' m' : Nat) (st kn : Int) : Bb (w.alloc (.cells #[.slice s n m, .slice t n' m', .int .i64 st, .int .i64 kn] 44)) w.heap.size (.slice s n m) (.slice t n' m') st kn :=
  ⟨by simp, by simp, by simp, by simp, by simp⟩
theorem Bb.open {W : World} {B : Nat} {v0 v1 : Value} {st kn : Int} (h : Bb W B v0 v1 st kn) : W.cell? ⟨B, 0, none⟩ = some v0 ∧ W.cell? ⟨B, 1, none⟩ = some v1 ∧ W.cell? ⟨B, 2, none⟩ = some (.int .i64 st) ∧ W.cell? ⟨B, 3, none⟩ = some (.int .i64 kn) := ⟨h.c0, h.c1, h.c2, h.c3⟩
def vaB (l : List Int) (st kn : Int) : Bool := decide (l.length ≤ 200 ∧ 0 ≤ st ∧ st ≤ 4096) && (kB kn && fewB l 281474976710656)
theorem va_iff {l : List Int} {st kn : Int} : vaB l st kn = true ↔ (l.length ≤ 200 ∧ 0 ≤ st ∧ st ≤ 4096) ∧ kB kn = true ∧ Ex.within 281474976710656 l := by simp [vaB, few_iff]
theorem va_fw {l : List Int} {st kn : Int} (h : vaB l st kn = true) : kB kn = true ∧ fwB l st = true := by
  obtain ⟨⟨h1, h2, h3⟩, h4, h5⟩ := va_iff.1 h
  exact ⟨h4, fw_iff.2 ⟨⟨h2, h3, by omega⟩, h5⟩⟩
set_option maxHeartbeats 1000000 in
theorem va_r (l : List Int) (st kn : Int) (s : Option Addr) (m : Nat) (w : World) (hH : HoldsI w s l) :
    Calls Try.prog 41 #[.slice s l.length m, .int .i64 st, .int .i64 kn] w fun e w' => e = .returned (.bool (vaB l st kn)) ∧ w = w' := by
  have hv : vaB l st kn = (decide (l.length ≤ 200) && (decide (0 ≤ st) && (decide (st ≤ 4096) && (kB kn && fewB l 281474976710656)))) := by simp [vaB, Bool.and_assoc]
  by_cases h1 : l.length ≤ 200
  · have h1i : (l.length : Int) ≤ 200 := by omega
    by_cases h2 : 0 ≤ st
    · by_cases h3 : st ≤ 4096
      · rw [hv, decide_eq_true h1, decide_eq_true h2, decide_eq_true h3, Bool.true_and, Bool.true_and, Bool.true_and]
        clear hv
        cases hk : kB kn with
        | false =>
          go_enter Try.func41, Try.ntmps41
          go_wp2_with (go_at_call 55; refine (vk_r _ _).mono ?_; rintro e wn ⟨rfl, rfl⟩)
          go_ret
          exact ⟨rfl, rfl⟩
        | true =>
          go_enter Try.func41, Try.ntmps41
          go_wp2_with (first | (go_at_call 55; refine (vk_r _ _).mono ?_; rintro e wn ⟨rfl, rfl⟩) | (go_at_call 42; refine (few_r _ _ _ _ _ (by decide) (by decide) (by omega) hH).mono ?_; rintro e wn ⟨rfl, rfl⟩))
          go_ret
          exact ⟨ret_bool (by simp), rfl⟩
      · rw [hv, decide_eq_false h3, Bool.false_and, Bool.and_false, Bool.and_false]
        clear hv
        go_enter Try.func41, Try.ntmps41
        go_wp2
        go_ret
        exact ⟨rfl, rfl⟩
    · rw [hv, decide_eq_false h2, Bool.false_and, Bool.and_false]
      clear hv
      go_enter Try.func41, Try.ntmps41
      go_wp2
      go_ret
      exact ⟨rfl, rfl⟩
  · have h1i : ¬ (l.length : Int) ≤ 200 := by omega
    rw [hv, decide_eq_false h1, Bool.false_and]
    clear hv
    go_enter Try.func41, Try.ntmps41
    go_wp2
    go_ret
    exact ⟨rfl, rfl⟩
theorem e4_f1 (s : Option Addr) (hs : s ≠ none) (w : World) (hH : HoldsI w s [1, 2, 3, 4]) :
    Calls Try.prog 31 #[.slice s 4 4, .int .i64 0, .int .i64 2] w (GivesSplit [1, 3] [0, 1] 0 w) := by
  have h := fwd_cyes [1, 2, 3, 4] 0 2 s 4 w (by decide) (by decide) (fun h => absurd h hs) hH
  rw [show Ex.splitE 0 (Ex.fwdL 0 [1, 2, 3, 4] 2) = [1, 3] by decide] at h
  rw [show Ex.splitO 0 (Ex.fwdL 0 [1, 2, 3, 4] 2) = [0, 1] by decide] at h
  exact h
theorem e4_f2 (s : Option Addr) (hs : s ≠ none) (w : World) (hH : HoldsI w s [16, 0, 0, 0]) :
    Calls Try.prog 31 #[.slice s 4 4, .int .i64 0, .int .i64 3] w (GivesSplit [12, -2] [-9, 2] 0 w) := by
  have h := fwd_cyes [16, 0, 0, 0] 0 3 s 4 w (by decide) (by decide) (fun h => absurd h hs) hH
  rw [show Ex.splitE 0 (Ex.fwdL 0 [16, 0, 0, 0] 3) = [12, -2] by decide] at h
  rw [show Ex.splitO 0 (Ex.fwdL 0 [16, 0, 0, 0] 3) = [-9, 2] by decide] at h
  exact h
theorem e4_i1 (s t : Option Addr) (w : World) (hE : HoldsI w s [7]) (hO : HoldsI w t [-4]) :
    Calls Try.prog 33 #[.slice s 1 1, .slice t 1 1, .int .i64 1, .int .i64 1] w (GivesE [5, 9] 0 w) := by
  have h := inv_cyes [7] [-4] 1 1 s t 1 1 w (by decide) (by decide) (by decide) (by decide) (by decide) (by decide) (by decide) hE hO
  rw [show Ex.invL 1 (Ex.joinL 1 [7] [-4]) 1 = [5, 9] by decide] at h
  exact h
theorem e4_i2 (s t : Option Addr) (w : World) (hE : HoldsI w s [7, 8]) (hO : HoldsI w t [9]) :
    Calls Try.prog 33 #[.slice s 2 2, .slice t 1 1, .int .i64 1, .int .i64 1] w (GivesE [] 4 w) := by
  have h := inv_cno4 [7, 8] [9] 1 1 s t 2 1 w (by decide) (by decide) (by decide) (by decide) (by decide) hE hO
  exact h
theorem e4_h (w : World) :
    Calls Try.prog 37 #[.int .i64 10, .int .i64 3] w (fun e w' => e = .returned (.int .i64 23) ∧ Below w.heap.size w w') := by
  have h := hb_c 10 3 w
  rw [show hbV 10 3 = 23 by decide] at h
  exact h
theorem e4_l (w : World) :
    Calls Try.prog 39 #[.int .i64 10, .int .i64 3] w (fun e w' => e = .returned (.int .i64 22) ∧ Below w.heap.size w w') := by
  have h := lb_c 10 3 w
  rw [show lbV 10 3 = 22 by decide] at h
  exact h
set_option maxRecDepth 100000 in
set_option maxHeartbeats 2000000 in
theorem example04_c (w : World) : Calls Try.prog 30 #[] w fun e w' => e = .returned (.bool true) ∧ Below w.heap.size w w' := by
  go_enter Try.func30, Try.ntmps30
  have B := Below.refl w.heap.size w
  go_wp2_with fail
  refine (e4_f1 _ (by simp) _ (holds_new w w.heap.size rfl [1, 2, 3, 4] _ rfl)).mono ?_
  rintro e w1 ⟨s1, m1, s2, m2, rfl, l1, l2, hb, _, _⟩
  replace B := below_call (below_alloc B _) hb
  clear hb
  go_wp2_with fail
  refine (e4_f2 _ (by simp) _ (holds_new w1 w1.heap.size rfl [16, 0, 0, 0] _ rfl)).mono ?_
  rintro e w2 ⟨s3, m3, s4, m4, rfl, l3, l4, hb, _, _⟩
  replace l1 := (l1.alloc _).call hb
  replace l2 := (l2.alloc _).call hb
  replace B := below_call (below_alloc B _) hb
  clear hb
  go_wp2_with fail
  refine (e4_i1 _ _ _ ((holds_new w2 w2.heap.size rfl [7] _ rfl).alloc _) (holds_new _ (w2.heap.size + 1) (by simp) [-4] _ rfl)).mono ?_
  rintro e w3 ⟨s5, m5, rfl, l5, hb, _⟩
  replace l1 := ((l1.alloc _).alloc _).call hb
  replace l2 := ((l2.alloc _).alloc _).call hb
  replace l3 := ((l3.alloc _).alloc _).call hb
  replace l4 := ((l4.alloc _).alloc _).call hb
  replace B := below_call (below_alloc (below_alloc B _) _) hb
  clear hb
  go_wp2_with fail
  refine (e4_i2 _ _ _ ((holds_new w3 w3.heap.size rfl [7, 8] _ rfl).alloc _) (holds_new _ (w3.heap.size + 1) (by simp) [9] _ rfl)).mono ?_
  rintro e w4 ⟨s6, m6, rfl, _, hb, _⟩
  replace l1 := ((l1.alloc _).alloc _).call hb
  replace l2 := ((l2.alloc _).alloc _).call hb
  replace l3 := ((l3.alloc _).alloc _).call hb
  replace l4 := ((l4.alloc _).alloc _).call hb
  replace l5 := ((l5.alloc _).alloc _).call hb
  replace B := below_call (below_alloc (below_alloc B _) _) hb
  clear hb
  go_wp2_with fail
  refine (ints_t [1, 3] 2 rfl (by decide) _ _ _ _ _ (l1.alloc _) (holds_new w4 w4.heap.size rfl [1, 3] _ rfl)).mono ?_
  rintro e w5 ⟨rfl, hb⟩
  replace l1 := (l1.alloc _).call hb
  replace l2 := (l2.alloc _).call hb
  replace l3 := (l3.alloc _).call hb
  replace l4 := (l4.alloc _).call hb
  replace l5 := (l5.alloc _).call hb
  replace B := below_call (below_alloc B _) hb
  clear hb
  go_wp2_with fail
  refine (ints_t [0, 1] 2 rfl (by decide) _ _ _ _ _ (l2.alloc _) (holds_new w5 w5.heap.size rfl [0, 1] _ rfl)).mono ?_
  rintro e w6 ⟨rfl, hb⟩
  replace l1 := (l1.alloc _).call hb
  replace l2 := (l2.alloc _).call hb
  replace l3 := (l3.alloc _).call hb
  replace l4 := (l4.alloc _).call hb
  replace l5 := (l5.alloc _).call hb
  replace B := below_call (below_alloc B _) hb
  clear hb
  go_wp2_with fail
  refine (ints_t [12, -2] 2 rfl (by decide) _ _ _ _ _ (l3.alloc _) (holds_new w6 w6.heap.size rfl [12, -2] _ rfl)).mono ?_
  rintro e w7 ⟨rfl, hb⟩
  replace l1 := (l1.alloc _).call hb
  replace l2 := (l2.alloc _).call hb
  replace l3 := (l3.alloc _).call hb
  replace l4 := (l4.alloc _).call hb
  replace l5 := (l5.alloc _).call hb
  replace B := below_call (below_alloc B _) hb
  clear hb
  go_wp2_with fail
  refine (ints_t [-9, 2] 2 rfl (by decide) _ _ _ _ _ (l4.alloc _) (holds_new w7 w7.heap.size rfl [-9, 2] _ rfl)).mono ?_
  rintro e w8 ⟨rfl, hb⟩
  replace l1 := (l1.alloc _).call hb
  replace l2 := (l2.alloc _).call hb
  replace l3 := (l3.alloc _).call hb
  replace l4 := (l4.alloc _).call hb
  replace l5 := (l5.alloc _).call hb
  replace B := below_call (below_alloc B _) hb
  clear hb
  go_wp2_with fail
  refine (ints_t [5, 9] 2 rfl (by decide) _ _ _ _ _ (l5.alloc _) (holds_new w8 w8.heap.size rfl [5, 9] _ rfl)).mono ?_
  rintro e w9 ⟨rfl, hb⟩
  replace l1 := (l1.alloc _).call hb
  replace l2 := (l2.alloc _).call hb
  replace l3 := (l3.alloc _).call hb
  replace l4 := (l4.alloc _).call hb
  replace l5 := (l5.alloc _).call hb
  replace B := below_call (below_alloc B _) hb
  clear hb
  go_wp2_with fail
  refine (e4_h _).mono ?_
  rintro e w10 ⟨rfl, hb⟩
  replace l1 := l1.call hb
  replace l2 := l2.call hb
  replace l3 := l3.call hb
  replace l4 := l4.call hb
  replace l5 := l5.call hb
  replace B := below_call B hb
  clear hb
  go_wp2_with fail
  refine (e4_l _).mono ?_
  rintro e w11 ⟨rfl, hb⟩
  replace l1 := l1.call hb
  replace l2 := l2.call hb
  replace l3 := l3.call hb
  replace l4 := l4.call hb
  replace l5 := l5.call hb
  replace B := below_call B hb
  clear hb
  go_wp2
  go_ret
  exact ⟨rfl, B⟩
end Go.Proofs.Ytpobmmdjcfdfoaa
