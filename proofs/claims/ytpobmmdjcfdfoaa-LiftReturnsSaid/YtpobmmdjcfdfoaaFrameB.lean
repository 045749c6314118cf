/-
  The arguments of lift's laws, opened; when Inverse answers with an error.
-/
import Derived.Test.YtpobmmdjcfdfoaaFrameI
import Derived.Test.YtpobmmdjcfdfoaaLiftB
namespace Go.Proofs.Ytpobmmdjcfdfoaa
open Go.ChangeShapes Go.WideShapes Go.ChangeAt Go.RowKit Go.Joins Go.Deep

theorem cellsB : Try.prog.cellsOf 44 = 4 := by kernel_rfl
/-- Two lists and two numbers by value. -/
theorem open_bands {H : Type} {enc : TypeId × Value → H} {w : World} {r : Reach} {b0 : Nat} {v : Value} {d : DataW H} {p : List MemPlace}
    (hv : Value.okWide Try.prog w r b0 44 v) (h : DataW.Trod enc Try.prog w 0 (fun _ => true) true 44 v d p) :
    ∃ (s : Option Addr) (l : List Int) (m : Nat) (t : Option Addr) (k : List Int) (m' : Nat) (st kn : Int), v = .agg #[.slice s l.length m, .slice t k.length m', .int .i64 st, .int .i64 kn] ∧
      HoldsI w s l ∧ l.length ≤ m ∧ m ≤ maxLen ∧ (s = none → l.length = 0 ∧ m = 0) ∧ HoldsI w t k ∧ k.length ≤ m' ∧ m' ≤ maxLen ∧ (t = none → k.length = 0 ∧ m' = 0) := by
  obtain ⟨c0, c1, c2, c3, y0, y1, y2, y3, n, rfl, _, _, h0, h1, h2, h3⟩ := open_agg4 Try.underlying44 (by kernel_rfl) cellsB hv h
  obtain ⟨s, l, m, e0, a0, a1, a2, a3⟩ := open_ints (enc := enc) (w := w) h0
  obtain ⟨t, k, m', e1, b0, b1, b2, b3⟩ := open_ints (enc := enc) (w := w) h1
  obtain ⟨st, e2, _, _⟩ := DataW.trod_int Try.underlying3 h2
  obtain ⟨kn, e3, _, _⟩ := DataW.trod_int Try.underlying40 h3
  simp at e2 e3
  subst e0 e1 e2 e3
  exact ⟨s, l, m, t, k, m', st, kn, rfl, a0, a1, a2, a3, b0, b1, b2, b3⟩
theorem Bb.allocC {W : World} {B : Nat} {v0 v1 : Value} {st kn : Int} (h : Bb W B v0 v1 st kn) (X : Obj) : Bb (W.alloc X) B v0 v1 st kn := h.alloc X
theorem hmx (x y : Int) : (if x < y then y else x) = max x y := by split <;> omega
theorem fwd_cn (l : List Int) (n : Nat) (hn : n = l.length) (st kn : Int) (s : Option Addr) (m : Nat) (w : World) (hk : kB kn = true) (hh : fwB l st = true) (hs : s ≠ none) (hH : HoldsI w s l) :
    Calls Try.prog 31 #[.slice s n m, .int .i64 st, .int .i64 kn] w (GivesSplit (Ex.splitE st (Ex.fwdL st l kn)) (Ex.splitO st (Ex.fwdL st l kn)) 0 w) := by
  subst hn
  exact fwd_cyes l st kn s m w hk hh (fun h => absurd h hs) hH
theorem fwd_c2 (l : List Int) (st kn : Int) (s : Option Addr) (m : Nat) (w : World) (hk : kB kn = true) (hh : fwB l (st + 2) = true) (hs : s = none → l.length = 0 ∧ m = 0) (hH : HoldsI w s l) :
    Calls Try.prog 31 #[.slice s l.length m, .int .i64 (st + 2), .int .i64 kn] w (GivesSplit (Ex.splitE st (Ex.fwdL st l kn)) (Ex.splitO st (Ex.fwdL st l kn)) 0 w) := by
  have h := fwd_cyes l (st + 2) kn s m w hk hh hs hH
  rw [Ex.fwd_two, (Ex.split_two _ st).1, (Ex.split_two _ st).2] at h
  exact h
/-- What Forward makes of equal samples. -/
theorem flat_parts (v st kn : Int) (n : Nat) (hk : kn = 1 ∨ kn = 2 ∨ kn = 3) (hn : 1 < n) :
    (∀ u ∈ Ex.splitE st (Ex.fwdL st (List.replicate n v) kn), u = v) ∧ Ex.within 0 (Ex.splitO st (Ex.fwdL st (List.replicate n v) kn)) ∧ (Ex.splitE st (Ex.fwdL st (List.replicate n v) kn)).length + (Ex.splitO st (Ex.fwdL st (List.replicate n v) kn)).length = n := by
  have hl : (Ex.fwdL st (List.replicate n v) kn).length = n := by rw [Ex.fwd_len, List.length_replicate]
  refine ⟨fun u hu => ?_, fun u hu => ?_, ?_⟩
  · obtain ⟨j, hj, hp, rfl⟩ := Ex.splitE_mem hu
    have h := Ex.fwd_flat (s := st) (v := v) hk hn (i := st + (j : Int)) (by omega) (by omega)
    rw [Ex.sg_at hj, if_pos hp] at h
    exact h
  · obtain ⟨j, hj, hp, rfl⟩ := Ex.splitO_mem hu
    have h := Ex.fwd_flat (s := st) (v := v) hk hn (i := st + (j : Int)) (by omega) (by omega)
    rw [Ex.sg_at hj, if_neg hp] at h
    omega
  · rw [Ex.splitE_len, Ex.splitO_len, hl]
    exact (Ex.cnt_next (s := st) (k := n)).2.2.2
theorem inv_cases (l k : List Int) (st kn : Int) (s t : Option Addr) (m m' : Nat) (hl : l.length ≤ 5000) (hk : k.length ≤ 5000) :
    (∃ E : Int, E ≠ 0 ∧ ∀ w : World, HoldsI w s l → HoldsI w t k → Calls Try.prog 33 #[.slice s l.length m, .slice t k.length m', .int .i64 st, .int .i64 kn] w (GivesE [] E w)) ∨
    (kB kn = true ∧ jnB st l.length k.length = true ∧ fewB l 1125899906842624 = true ∧ fewB k 1125899906842624 = true ∧ jcB st l.length k.length = true) := by
  cases hkn : kB kn with
  | false => exact .inl ⟨3, by decide, fun w _ _ => inv_cno1 l k st kn s t m m' w hkn⟩
  | true =>
    cases hh : jnB st l.length k.length with
    | false => exact .inl ⟨2, by decide, fun w a b => inv_cno2 l k st kn s t m m' w hkn hh (by omega) (by omega) a b⟩
    | true =>
      cases hf : (fewB l 1125899906842624 && fewB k 1125899906842624) with
      | false => exact .inl ⟨2, by decide, fun w a b => inv_cno3 l k st kn s t m m' w hkn hh hf a b⟩
      | true =>
        rw [Bool.and_eq_true] at hf
        cases hc : jcB st l.length k.length with
        | false => exact .inl ⟨4, by decide, fun w a b => inv_cno4 l k st kn s t m m' w hkn hh hf.1 hf.2 hc a b⟩
        | true => exact .inr ⟨rfl, rfl, hf.1, hf.2, rfl⟩
end Go.Proofs.Ytpobmmdjcfdfoaa
