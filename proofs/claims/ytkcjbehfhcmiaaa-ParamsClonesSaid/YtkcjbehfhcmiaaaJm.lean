/-
  Layer 23: what options and signs do not matter for (mathematics); one cell of an own list turned.
-/
import Derived.Test.YtkcjbehfhcmiaaaJl
set_option maxRecDepth 100000
namespace Go.Proofs.Ytkcjbehfhcmiaaa
open Go.RowKit

def flp (c : Hp.Cm) : Hp.Cm := ⟨c.depth, !c.sg, c.dx, c.dy⟩
def flH (h : Hp.Hd) : Hp.Hd := ⟨h.a, h.b, h.c, h.d, h.tw, h.th, h.cs.map flp⟩
def optP (p q : Hp.Ps) : Hp.Ps := ⟨p.kern, p.lev, p.col, p.bx, p.yb, p.prec, p.ord, p.lay, q.m0, q.m1, q.m2, q.m3, q.m4, q.dv, q.sy, q.fe, p.steps, p.dead, p.sh⟩
theorem flp_inj {a b : Hp.Cm} : flp a = flp b ↔ a = b := by
  obtain ⟨a0, a1, a2, a3⟩ := a
  obtain ⟨b0, b1, b2, b3⟩ := b
  simp [flp]
theorem all_flp (r : Pl.R) (l : List Hp.Cm) : (l.map flp).all (Hp.cmB r) = l.all (Hp.cmB r) := by
  rw [List.all_map]; rfl
theorem any_flp (r : Pl.R) (l : List Hp.Cm) : (l.map flp).any (Hp.wideB r) = l.any (Hp.wideB r) := by
  rw [List.any_map]; rfl
theorem head_flip (h : Hp.Hd) : Hp.headM (flH h) = Hp.headM h := by
  have e1 : Hp.hdB (flH h) = Hp.hdB h := by
    unfold Hp.hdB flH
    simp
  have e2 : Hp.sndB (flH h) = Hp.sndB h := by
    unfold Hp.sndB
    rw [e1]
    show (_ && (h.cs.map flp).all (Hp.cmB (Hp.hR h))) = _
    rw [all_flp]
  have e3 : Hp.bigB (flH h) = Hp.bigB h := by
    unfold Hp.bigB
    show (_ || (h.cs.map flp).any (Hp.wideB (Hp.hR h))) = _
    rw [any_flp]
    rfl
  unfold Hp.headM
  rw [e2, e3]
theorem opt_eq {a b : Option Hp.Cm} : a.map flp = b.map flp ↔ a = b := by
  cases a <;> cases b <;> simp [flp_inj]
theorem col_flip (h : Hp.Hd) (p q : Hp.Ps) : Hp.colB (flH h) (optP p q) = Hp.colB h p := by
  unfold Hp.colB
  show (decide (p.col = 0) || (decide (3 ≤ (h.cs.map flp).length) && (decide ((h.cs.map flp)[0]? = (h.cs.map flp)[1]?) && decide ((h.cs.map flp)[1]? = (h.cs.map flp)[2]?)))) = _
  simp only [List.length_map, List.getElem?_map, opt_eq]
theorem crw_flip (h : Hp.Hd) (p q : Hp.Ps) : Hp.crwB (flH h) (optP p q) = Hp.crwB h p := by
  have e1 : Hp.anyBig (flH h) (optP p q) = Hp.anyBig h p := by
    unfold Hp.anyBig
    show (h.cs.map flp).any _ = _
    rw [List.any_map]
    rfl
  have e2 : Hp.totM (flH h) (optP p q) = Hp.totM h p := by
    unfold Hp.totM
    show (h.cs.map flp).foldl _ _ = _
    rw [List.foldl_map]
    rfl
  unfold Hp.crwB
  rw [e1, e2]
  rfl
theorem chk_flip (h : Hp.Hd) (p q : Hp.Ps) : Hp.chkM (flH h) (optP p q) = Hp.chkM h p := by
  unfold Hp.chkM
  rw [head_flip, col_flip, crw_flip]
  rfl
theorem chk_opt (h : Hp.Hd) (p q : Hp.Ps) : Hp.chkM h (optP p q) = Hp.chkM h p := by
  have e1 : Hp.colB h (optP p q) = Hp.colB h p := rfl
  have e2 : Hp.crwB h (optP p q) = Hp.crwB h p := rfl
  unfold Hp.chkM
  rw [e1, e2]
  rfl
/-- The first k of a list turned. -/
def fst {α : Type} (g : α → α) (k : Nat) (l : List α) : List α := (l.take k).map g ++ l.drop k
theorem fst_len {α : Type} (g : α → α) (k : Nat) (l : List α) (hk : k ≤ l.length) : (fst g k l).length = l.length := by simp [fst]; omega
theorem fst_zero {α : Type} (g : α → α) (l : List α) : fst g 0 l = l := by simp [fst]
theorem fst_all {α : Type} (g : α → α) (l : List α) : fst g l.length l = l.map g := by simp [fst]
theorem fst_at {α : Type} (g : α → α) (k : Nat) (l : List α) (hk : k < l.length) : (fst g k l)[k]'(by rw [fst_len _ _ _ (by omega)]; exact hk) = l[k] := by
  unfold fst
  rw [List.getElem_append_right (by simp; omega)]
  simp [Nat.min_eq_left (Nat.le_of_lt hk)]
theorem fst_next {α : Type} (g : α → α) (k : Nat) (l : List α) (hk : k < l.length) : (fst g k l).set k (g l[k]) = fst g (k + 1) l := by
  unfold fst
  have e : ((l.take k).map g).length = k := by simp; omega
  rw [List.set_append_right _ _ (by omega), e, Nat.sub_self, List.drop_eq_getElem_cons hk, List.set_cons_zero, List.take_succ_eq_append_getElem hk, List.map_append, List.append_assoc]
  rfl
theorem ownG_set {α : Type} {f : α → List Value} {n : Nat} (hn : ∀ a, (f a).length = n) {w : World} {g : Nat} {T : TypeId} {l : List α} {pad : List Value} (h : Blk w g T ((l.flatMap f) ++ pad).toArray)
    (k : Nat) (hk : k < l.length) (r : Nat) (hr : r < n) (c : α) (v : Value) (hc : f c = (f l[k]).set r v) : Blk (w.setCell ⟨g, k * n + r, none⟩ v) g T (((l.set k c).flatMap f) ++ pad).toArray := by
  have h1 := h.set (k * n + r) v
  have hb : k * n + r < (l.flatMap f).length := by
    rw [flat_len hn]
    calc k * n + r < k * n + n := by omega
      _ = (k + 1) * n := by rw [Nat.succ_mul]
      _ ≤ l.length * n := Nat.mul_le_mul_right _ hk
  rw [List.setIfInBounds_toArray, List.set_append_left _ _ hb, flat_set hn l k hk r hr c v hc] at h1
  exact h1
theorem ownG_get {α : Type} {f : α → List Value} {n : Nat} (hn : ∀ a, (f a).length = n) {w : World} {g : Nat} {T : TypeId} {l : List α} {pad : List Value} (h : Blk w g T ((l.flatMap f) ++ pad).toArray)
    (k : Nat) (hk : k < l.length) (r : Nat) (hr : r < n) (v : Value) (hv : (f l[k])[r]? = some v) : w.cell? ⟨g, k * n + r, none⟩ = some v := by
  rw [h.cell, List.getElem?_toArray]
  have h1 := (flat_get hn l k hk r hr).trans hv
  rw [List.getElem?_append_left (List.getElem?_eq_some_iff.1 h1).1, h1]
end Go.Proofs.Ytkcjbehfhcmiaaa
