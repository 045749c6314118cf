/-
  What the code's function and the reference's return is one and the same.
-/
import Derived.Test.YtamkipdalegioaaPlnN
import Derived.Test.YtamkipdalegioaaEx02
namespace Go.Proofs.Ytamkipdalegioaa
open Go.RowKit

theorem pv_le {a b c d : Int} {l : List Int} (hp : pvB a b c d l.length = true) : l.length ≤ 1048576 := by
  obtain ⟨_, h1, h2⟩ := pv_iff.1 hp
  omega
theorem paste_len {a b c d a' b' c' d' : Int} {l k : List Int} (hp : pvB a b c d l.length = true) : (pasteL ⟨a, b, c, d⟩ l ⟨a', b', c', d'⟩ k).length = l.length := by rw [pasteL, tabL_len, ← pv_len hp]
theorem crop_pv {a b c d a' b' c' d' : Int} {l : List Int} (hp : pvB a b c d l.length = true) (hv : Pl.validB a' b' c' d' = true) (hc : Pl.contB a b c d a' b' c' d' = true) : pvB a' b' c' d' (cropL ⟨a, b, c, d⟩ l ⟨a', b', c', d'⟩).length = true := by
  obtain ⟨hpv, hpa, _⟩ := pv_iff.1 hp
  exact pv_tab hv (Int.le_trans (area_mono hpv hv hc).1 hpa)
theorem crop_both (a b c d a' b' c' d' : Int) (s : Option Addr) (m : Nat) (l : List Int) (hm : l.length ≤ m) :
    ∃ (R0 : Pl.R) (L0 : List Int) (E0 : Int), L0.length ≤ 1048576 ∧ (∀ w : World, HoldsI w s l → Calls Try.prog 27 #[.agg #[.int .i64 a, .int .i64 b, .int .i64 c, .int .i64 d, .slice s l.length m], .agg #[.int .i64 a', .int .i64 b', .int .i64 c', .int .i64 d']] w (GivesPlane R0 L0 E0 w)) ∧ (∀ w : World, HoldsI w s l → Calls Try.prog 28 #[.agg #[.int .i64 a, .int .i64 b, .int .i64 c, .int .i64 d, .slice s l.length m], .agg #[.int .i64 a', .int .i64 b', .int .i64 c', .int .i64 d']] w (GivesPlane R0 L0 E0 w)) := by
  by_cases hp : pvB a b c d l.length = true
  · by_cases hv : Pl.validB a' b' c' d' = true
    · by_cases hc : Pl.contB a b c d a' b' c' d' = true
      · exact ⟨_, _, _, pv_le (crop_pv hp hv hc), fun w hH => crop_yes _ _ _ _ _ _ _ _ _ _ _ w hp hv hc hm hH, fun w hH => cropr_yes _ _ _ _ _ _ _ _ _ _ _ w hp hv hc hH⟩
      · have hc' : Pl.contB a b c d a' b' c' d' = false := by simpa using hc
        exact ⟨_, _, _, Nat.zero_le _, fun w _ => crop_no3 _ _ _ _ _ _ _ _ _ _ _ w hp hv hc', fun w _ => cropr_no3 _ _ _ _ _ _ _ _ _ _ _ w hp hv hc'⟩
    · have hv' : Pl.validB a' b' c' d' = false := by simpa using hv
      exact ⟨_, _, _, Nat.zero_le _, fun w _ => crop_no2 _ _ _ _ _ _ _ _ _ _ _ w hp hv', fun w _ => cropr_no2 _ _ _ _ _ _ _ _ _ _ _ w hp hv'⟩
  · have hp' : pvB a b c d l.length = false := by simpa using hp
    exact ⟨_, _, _, Nat.zero_le _, fun w _ => crop_no1 _ _ _ _ _ _ _ _ _ _ _ w hp', fun w _ => cropr_no1 _ _ _ _ _ _ _ _ _ _ _ w hp'⟩
theorem paste_both (a b c d a' b' c' d' : Int) (s t : Option Addr) (m m' : Nat) (l k : List Int) (hm' : k.length ≤ m') (hs : s = none → l.length = 0 ∧ m = 0) :
    ∃ (R0 : Pl.R) (L0 : List Int) (E0 : Int), L0.length ≤ 1048576 ∧ (∀ w : World, HoldsI w s l → HoldsI w t k → Calls Try.prog 29 #[.agg #[.int .i64 a, .int .i64 b, .int .i64 c, .int .i64 d, .slice s l.length m], .agg #[.int .i64 a', .int .i64 b', .int .i64 c', .int .i64 d', .slice t k.length m']] w (GivesPlane R0 L0 E0 w)) ∧ (∀ w : World, HoldsI w s l → HoldsI w t k → Calls Try.prog 30 #[.agg #[.int .i64 a, .int .i64 b, .int .i64 c, .int .i64 d, .slice s l.length m], .agg #[.int .i64 a', .int .i64 b', .int .i64 c', .int .i64 d', .slice t k.length m']] w (GivesPlane R0 L0 E0 w)) := by
  by_cases hp : pvB a b c d l.length = true
  · by_cases hq : pvB a' b' c' d' k.length = true
    · exact ⟨_, _, _, by rw [paste_len hp]; exact pv_le hp, fun w hH hK => paste_yes _ _ _ _ _ _ _ _ _ _ _ _ _ _ w hp hq hm' hH hs hK, fun w hH hK => paster_yes _ _ _ _ _ _ _ _ _ _ _ _ _ _ w hp hq hH hK⟩
    · have hq' : pvB a' b' c' d' k.length = false := by simpa using hq
      exact ⟨_, _, _, Nat.zero_le _, fun w _ _ => paste_no2 _ _ _ _ _ _ _ _ _ _ _ _ _ _ w hp hq', fun w _ _ => paster_no2 _ _ _ _ _ _ _ _ _ _ _ _ _ _ w hp hq'⟩
  · have hp' : pvB a b c d l.length = false := by simpa using hp
    exact ⟨_, _, _, Nat.zero_le _, fun w _ _ => paste_no1 _ _ _ _ _ _ _ _ _ _ _ _ _ _ w hp', fun w _ _ => paster_no1 _ _ _ _ _ _ _ _ _ _ _ _ _ _ w hp'⟩
theorem clip_both (a b c d lo hi : Int) (s : Option Addr) (m : Nat) (l : List Int) :
    ∃ (R0 : Pl.R) (L0 : List Int) (E0 : Int), L0.length ≤ 1048576 ∧ (∀ w : World, HoldsI w s l → Calls Try.prog 31 #[.agg #[.int .i64 a, .int .i64 b, .int .i64 c, .int .i64 d, .slice s l.length m], .int .i64 lo, .int .i64 hi] w (GivesPlane R0 L0 E0 w)) ∧ (∀ w : World, HoldsI w s l → Calls Try.prog 32 #[.agg #[.int .i64 a, .int .i64 b, .int .i64 c, .int .i64 d, .slice s l.length m], .int .i64 lo, .int .i64 hi] w (GivesPlane R0 L0 E0 w)) := by
  by_cases hp : pvB a b c d l.length = true
  · by_cases hlh : hi < lo
    · exact ⟨_, _, _, Nat.zero_le _, fun w _ => clip_no2 _ _ _ _ _ _ _ _ _ w hp hlh, fun w _ => clipr_no2 _ _ _ _ _ _ _ _ _ w hp hlh⟩
    · exact ⟨_, _, _, by rw [clipL_len]; exact pv_le hp, fun w hH => clip_yes _ _ _ _ _ _ _ _ _ w hp (by omega) hH, fun w hH => clipr_yes _ _ _ _ _ _ _ _ _ w hp (by omega) hH⟩
  · have hp' : pvB a b c d l.length = false := by simpa using hp
    exact ⟨_, _, _, Nat.zero_le _, fun w _ => clip_no1 _ _ _ _ _ _ _ _ _ w hp', fun w _ => clipr_no1 _ _ _ _ _ _ _ _ _ w hp'⟩
theorem lim_both (a b c d : Int) (s : Option Addr) (m : Nat) (l : List Int) :
    ∃ (u v : Int) (ok : Bool), (∀ w : World, HoldsI w s l → Calls Try.prog 33 #[.agg #[.int .i64 a, .int .i64 b, .int .i64 c, .int .i64 d, .slice s l.length m]] w (fun e w' => e = .returned (.tuple #[.int .i64 u, .int .i64 v, .bool ok]) ∧ Below w.heap.size w w')) ∧ (∀ w : World, HoldsI w s l → Calls Try.prog 34 #[.agg #[.int .i64 a, .int .i64 b, .int .i64 c, .int .i64 d, .slice s l.length m]] w (fun e w' => e = .returned (.tuple #[.int .i64 u, .int .i64 v, .bool ok]) ∧ Below w.heap.size w w')) := by
  by_cases hp : pvB a b c d l.length = true
  · by_cases h0 : l.length = 0
    · exact ⟨_, _, _, fun w _ => lim_no _ _ _ _ _ _ _ w (.inr ⟨hp, h0⟩), fun w _ => limr_no _ _ _ _ _ _ _ w (.inr ⟨hp, h0⟩)⟩
    · exact ⟨_, _, _, fun w hH => lim_yes _ _ _ _ _ _ _ w hp (by omega) (by have := pv_le hp; omega) hH, fun w hH => limr_yes _ _ _ _ _ _ _ w hp (by omega) hH⟩
  · have hp' : pvB a b c d l.length = false := by simpa using hp
    exact ⟨_, _, _, fun w _ => lim_no _ _ _ _ _ _ _ w (.inl hp'), fun w _ => limr_no _ _ _ _ _ _ _ w (.inl hp')⟩
theorem Box.allocC {w : World} {B : Nat} {r : Pl.R} (h : Box w B r) (X : Obj) : Box (w.alloc X) B r := h.below ((Below.refl _ _).alloc (Nat.le_refl _) _)
theorem psB_self (q : Pl.R) (l : List Int) : psB q q l l = true := by simp [psB, eqL_self, Pl.eq_self]
/-- Same of the reference, on two equal planes. -/
theorem ps_rt (q : Pl.R) (l : List Int) (hl : l.length ≤ 1048576) (s t : Option Addr) (m m' : Nat) (w : World) (h1 : HoldsI w s l) (h2 : HoldsI w t l) :
    Calls Try.prog 16 #[.agg #[.int .i64 q.x0, .int .i64 q.y0, .int .i64 q.x1, .int .i64 q.y1, .slice s l.length m], .agg #[.int .i64 q.x0, .int .i64 q.y0, .int .i64 q.x1, .int .i64 q.y1, .slice t l.length m']] w fun e w' => e = .returned (.bool true) ∧ Below w.heap.size w w' := by
  have h := ps_r q q s t m m' l l w (by omega) (by omega) h1 h2
  rw [psB_self] at h
  exact h
/-- Same of the code, of two planes by their numbers. -/
theorem ps_c2 (a b c d a' b' c' d' : Int) (s t : Option Addr) (m m' : Nat) (l k : List Int) (w : World) (hl : l.length ≤ 140737488351232) (hk : k.length ≤ 140737488351232) (h1 : HoldsI w s l) (h2 : HoldsI w t k) :
    Calls Try.prog 35 #[.agg #[.int .i64 a, .int .i64 b, .int .i64 c, .int .i64 d, .slice s l.length m], .agg #[.int .i64 a', .int .i64 b', .int .i64 c', .int .i64 d', .slice t k.length m']] w fun e w' => e = .returned (.bool (psB ⟨a, b, c, d⟩ ⟨a', b', c', d'⟩ l k)) ∧ Below w.heap.size w w' :=
  ps_c ⟨a, b, c, d⟩ ⟨a', b', c', d'⟩ s t m m' l k w hl hk h1 h2
theorem psB_comm (p q : Pl.R) (l k : List Int) : psB p q l k = psB q p k l := by
  unfold psB Pl.eqB eqL
  congr 1
  · rw [decide_eq_decide]
    constructor <;> intro h <;> simp only [h, and_self]
  · rw [decide_eq_decide]
    exact eq_comm
theorem ps_cs (a b c d a' b' c' d' : Int) (s t : Option Addr) (m m' : Nat) (l k : List Int) (w : World) (hl : l.length ≤ 140737488351232) (hk : k.length ≤ 140737488351232) (h1 : HoldsI w s l) (h2 : HoldsI w t k) :
    Calls Try.prog 35 #[.agg #[.int .i64 a', .int .i64 b', .int .i64 c', .int .i64 d', .slice t k.length m'], .agg #[.int .i64 a, .int .i64 b, .int .i64 c, .int .i64 d, .slice s l.length m]] w fun e w' => e = .returned (.bool (psB ⟨a, b, c, d⟩ ⟨a', b', c', d'⟩ l k)) ∧ Below w.heap.size w w' := by
  rw [psB_comm]
  exact ps_c2 a' b' c' d' a b c d t s m' m k l w hk hl h2 h1
theorem ps_r2 (a b c d a' b' c' d' : Int) (s t : Option Addr) (m m' : Nat) (l k : List Int) (w : World) (hl : l.length ≤ 140737488351232) (hk : k.length ≤ 140737488351232) (h1 : HoldsI w s l) (h2 : HoldsI w t k) :
    Calls Try.prog 16 #[.agg #[.int .i64 a, .int .i64 b, .int .i64 c, .int .i64 d, .slice s l.length m], .agg #[.int .i64 a', .int .i64 b', .int .i64 c', .int .i64 d', .slice t k.length m']] w fun e w' => e = .returned (.bool (psB ⟨a, b, c, d⟩ ⟨a', b', c', d'⟩ l k)) ∧ Below w.heap.size w w' :=
  ps_r ⟨a, b, c, d⟩ ⟨a', b', c', d'⟩ s t m m' l k w hl hk h1 h2
theorem ps_c1 (a b c d : Int) (s : Option Addr) (m : Nat) (l : List Int) (w : World) (hl : l.length ≤ 140737488351232) (h1 : HoldsI w s l) :
    Calls Try.prog 35 #[.agg #[.int .i64 a, .int .i64 b, .int .i64 c, .int .i64 d, .slice s l.length m], .agg #[.int .i64 a, .int .i64 b, .int .i64 c, .int .i64 d, .slice s l.length m]] w fun e w' => e = .returned (.bool true) ∧ Below w.heap.size w w' := by
  have h := ps_c2 a b c d a b c d s s m m l l w hl hl h1 h1
  rw [psB_self] at h
  exact h
end Go.Proofs.Ytamkipdalegioaa
