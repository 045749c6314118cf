/-
  What the code's function and the reference's return is one and the same.
-/
import Derived.Test.YtadkcgpkbcgeoaaPlnN
import Derived.Test.YtadkcgpkbcgeoaaEx02
set_option maxRecDepth 100000
namespace Go.Proofs.Ytadkcgpkbcgeoaa
open Go.RowKit

theorem pv_le {a b c d : Int} {l : List Int} (hp : pvB a b c d l.length = true) : l.length ≤ 1048576 := by
  obtain ⟨_, h1, h2⟩ := pv_iff.1 hp
  omega
theorem paste_len {a b c d a' b' c' d' : Int} {l k : List Int} (hp : pvB a b c d l.length = true) : (pasteL ⟨a, b, c, d⟩ l ⟨a', b', c', d'⟩ k).length = l.length := by rw [pasteL, tabL_len, ← pv_len hp]
theorem crop_pv {a b c d a' b' c' d' : Int} {l : List Int} (hp : pvB a b c d l.length = true) (hv : Pl.validB a' b' c' d' = true) (hc : Pl.contB a b c d a' b' c' d' = true) : pvB a' b' c' d' (cropL ⟨a, b, c, d⟩ l ⟨a', b', c', d'⟩).length = true := by
  obtain ⟨hpv, hpa, _⟩ := pv_iff.1 hp
  exact pv_tab hv (Int.le_trans (area_mono hpv hv hc).1 hpa)
theorem Box.allocC {w : World} {B : Nat} {r : Pl.R} (h : Box w B r) (X : Obj) : Box (w.alloc X) B r := h.below ((Below.refl _ _).alloc (Nat.le_refl _) _)
theorem psB_self (q : Pl.R) (l : List Int) : psB q q l l = true := by simp [psB, eqL_self, Pl.eq_self]
/-- Same of the reference, on two equal planes. -/
theorem ps_rt (q : Pl.R) (l : List Int) (hl : l.length ≤ 1048576) (s t : Option Addr) (m m' : Nat) (w : World) (h1 : HoldsI w s l) (h2 : HoldsI w t l) :
    Calls Try.prog 37 #[.agg #[.int .i64 q.x0, .int .i64 q.y0, .int .i64 q.x1, .int .i64 q.y1, .slice s l.length m], .agg #[.int .i64 q.x0, .int .i64 q.y0, .int .i64 q.x1, .int .i64 q.y1, .slice t l.length m']] w fun e w' => e = .returned (.bool true) ∧ Below w.heap.size w w' := by
  have h := ps_r q q s t m m' l l w (by omega) (by omega) h1 h2
  rw [psB_self] at h
  exact h
theorem psB_comm (p q : Pl.R) (l k : List Int) : psB p q l k = psB q p k l := by
  unfold psB Pl.eqB eqL
  congr 1
  · rw [decide_eq_decide]
    constructor <;> intro h <;> simp only [h, and_self]
  · rw [decide_eq_decide]
    exact eq_comm
theorem ps_r2 (a b c d a' b' c' d' : Int) (s t : Option Addr) (m m' : Nat) (l k : List Int) (w : World) (hl : l.length ≤ 140737488351232) (hk : k.length ≤ 140737488351232) (h1 : HoldsI w s l) (h2 : HoldsI w t k) :
    Calls Try.prog 37 #[.agg #[.int .i64 a, .int .i64 b, .int .i64 c, .int .i64 d, .slice s l.length m], .agg #[.int .i64 a', .int .i64 b', .int .i64 c', .int .i64 d', .slice t k.length m']] w fun e w' => e = .returned (.bool (psB ⟨a, b, c, d⟩ ⟨a', b', c', d'⟩ l k)) ∧ Below w.heap.size w w' :=
  ps_r ⟨a, b, c, d⟩ ⟨a', b', c', d'⟩ s t m m' l k w hl hk h1 h2
end Go.Proofs.Ytadkcgpkbcgeoaa
