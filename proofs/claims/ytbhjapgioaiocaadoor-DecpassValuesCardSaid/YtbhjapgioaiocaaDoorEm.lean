/-
  Layer 15: the values laid into a block; Symbols.
-/
import Derived.Test.YtbhjapgioaiocaaDoorEl
set_option maxRecDepth 100000
namespace Go.Proofs.YtbhjapgioaiocaaDoor
open Go.RowKit

/-- The values laid into a block, one after the other. -/
def setV (w h : Nat) (l : List Int) : Nat → St
  | 0 => St.zero
  | k + 1 => setQ w h (setV w h l k) ((k % w : Nat) : Int) ((k / w : Nat) : Int) (l[k]?.getD 0)
/-- The block before a pass; a pass's symbols. -/
def blkP (w h : Nat) (planes o : Int) (m : Mo) (q : St) : Nat → St
  | 0 => q
  | k + 1 => (runQ w h (k : Int) planes o m (blkP w h planes o m q k)).1
def symP (w h : Nat) (planes o : Int) (m : Mo) (q : St) (k : Nat) : List Sy := (runQ w h (k : Int) planes o m (blkP w h planes o m q k)).2
def symL (w h : Nat) (planes o : Int) (m : Mo) (q : St) (n : Nat) : List (List Sy) := (List.range n).map (symP w h planes o m q)
theorem symL_succ (w h : Nat) (planes o : Int) (m : Mo) (q : St) (n : Nat) : symL w h planes o m q (n + 1) = symL w h planes o m q n ++ [symP w h planes o m q n] := by unfold symL; rw [List.range_succ, List.map_append]; rfl
theorem setQ_ok (w h : Nat) (q : St) (x y v : Int) (hq : ∀ x y, okV (q.v x y)) (hv : okV v) : ∀ X Y, okV ((setQ w h q x y v).v X Y) := by
  intro X Y
  unfold setQ
  split
  · show okV (upd q.v x y v X Y)
    unfold upd
    split
    · exact hv
    · exact hq X Y
  · exact hq X Y
theorem setV_ok (w h : Nat) (l : List Int) (hl : ∀ v ∈ l, okV v) (k : Nat) : ∀ X Y, okV ((setV w h l k).v X Y) := by
  induction k with
  | zero => intro X Y; show okV 0; decide
  | succ k ih =>
    refine setQ_ok w h _ _ _ _ ih ?_
    by_cases hk : k < l.length
    · rw [List.getElem?_eq_getElem hk]; exact hl _ (List.getElem_mem hk)
    · rw [List.getElem?_eq_none (by omega)]; decide
theorem foldl_v {α : Type} (f : Es → α → Es) (hf : ∀ e z, (f e z).1.v = e.1.v) (l : List α) (e : Es) : (l.foldl f e).1.v = e.1.v := by
  induction l generalizing e with
  | nil => rfl
  | cons a l ih => rw [List.foldl_cons, ih, hf]
theorem signS_v (p : Pp) (e : Es) (x y : Int) : (signS p e x y).1.v = e.1.v := markQ_v _ _ _ _ _
theorem codeS_v (p : Pp) (e : Es) (x y : Int) : (codeS p e x y).1.v = e.1.v := by
  unfold codeS
  split
  · exact signS_v _ _ _ _
  · rfl
theorem sigS_v (p : Pp) (e : Es) (z : Int × Int) : (sigS p e z).1.v = e.1.v := by
  unfold sigS
  split
  · exact (touchQ_v _ _ _ _ _ _).trans (codeS_v _ _ _ _)
  · rfl
theorem refS_v (p : Pp) (e : Es) (z : Int × Int) : (refS p e z).1.v = e.1.v := by
  unfold refS
  split
  · exact (touchQ_v _ _ _ _ _ _).trans (refineQ_v _ _ _ _ _)
  · rfl
theorem clnS_v (p : Pp) (e : Es) (z : Int × Int) : (clnS p e z).1.v = e.1.v := by
  unfold clnS
  split
  · rfl
  · exact codeS_v _ _ _ _
theorem runS_v (p : Pp) (e : Es) (x top : Nat) : (runS p e x top).1.v = e.1.v := by
  unfold runS
  split
  · rfl
  · exact signS_v _ _ _ _
theorem colS_v (p : Pp) (e : Es) (x top n : Nat) : (colS p e x top n).1.v = e.1.v := by
  unfold colS
  split
  · rw [foldl_v _ (clnS_v p), runS_v]
  · rw [foldl_v _ (clnS_v p)]
theorem strS_v (p : Pp) (e : Es) (top n k : Nat) : (strS p e top n k).1.v = e.1.v := foldl_v _ (fun e x => colS_v p e x top n) _ _
theorem clS_v (p : Pp) (e : Es) (k : Nat) : (clS p e k).1.v = e.1.v := foldl_v _ (fun e _ => strS_v p e _ _ _) _ _
theorem offS_v (p : Pp) (e : Es) (l : List (Int × Int)) : (offS p e l).1.v = e.1.v := foldl_v _ (fun _ _ => touchQ_v _ _ _ _ _ _) _ _
theorem passS_v (p : Pp) (k : Int) (y : Bool) (e : Es) : (passS p k y e).1.v = e.1.v := by
  unfold passS
  split
  · exact foldl_v _ (sigS_v p) _ _
  split
  · exact foldl_v _ (refS_v p) _ _
  · have h : (endS p y (offS p (clS p e ((p.h + 3) / 4)) (scan p.w p.h))).1 = (offS p (clS p e ((p.h + 3) / 4)) (scan p.w p.h)).1 := by unfold endS; split <;> rfl
    unfold cleanS
    rw [h, offS_v, clS_v]
theorem runQ_v (w h : Nat) (pass planes o : Int) (m : Mo) (q : St) : (runQ w h pass planes o m q).1.v = q.v := passS_v _ _ _ _
theorem blkP_v (w h : Nat) (planes o : Int) (m : Mo) (q : St) (k : Nat) : (blkP w h planes o m q k).v = q.v := by
  induction k with
  | zero => rfl
  | succ k ih => rw [← ih]; exact runQ_v _ _ _ _ _ _ _
theorem own2_lower {w : World} {base base' n z : Nat} {e : TypeId} {v : Value} {xs : List Value} (h : w.ownsRow base e z v n xs) (hB : base' ≤ base) : w.ownsRow base' e z v n xs := by
  refine ⟨h.1, ?_⟩
  rcases h.2 with h2 | ⟨g, cap, cur, rfl, hb, h3⟩
  · exact .inl h2
  · exact .inr ⟨g, cap, cur, rfl, Nat.le_trans hB hb, h3⟩
/-- A list of lists of symbols of the call's own. -/
structure SsAt (w W : World) (v : Value) (Ls : List (List Sy)) : Prop where
  ex : ∃ vs : List Value, vs.length = Ls.length ∧ W.ownsRow w.heap.size 35 1 v Ls.length vs ∧ ∀ k (h : k < vs.length) (h2 : k < Ls.length), W.ownsRow w.heap.size 52 2 vs[k] Ls[k].length (cellsP Ls[k])
theorem SsAt.nil (w W : World) : SsAt w W (.slice none 0 0) [] := ⟨[], rfl, World.ownsRow_nil _ _ _ _, fun k h => by simp at h⟩
theorem own2_kb {fp : List Nat} {W W' : World} {base n z : Nat} {e : TypeId} {v : Value} {xs : List Value} (h : W.ownsRow base e z v n xs) (hk : Kb fp W W') (hf : ∀ k ∈ fp, v.ownBlock ≠ some k) : W'.ownsRow base e z v n xs :=
  own2_keep h fun k hv => hk.block k (own2_lt h hv).2 fun hm => hf k hm hv
theorem SsAt.kb {fp : List Nat} {w W W' : World} {v : Value} {Ls : List (List Sy)} (H : SsAt w W v Ls) (hk : Kb fp W W') (hf : ∀ k ∈ fp, ∃ t cs, Blk W k t cs ∧ t ≠ 52 ∧ t ≠ 35) : SsAt w W' v Ls := by
  obtain ⟨vs, h1, h2, h3⟩ := H.ex
  refine ⟨vs, h1, own2_kb h2 hk fun k hm => ?_, fun k h h' => own2_kb (h3 k h h') hk fun j hm => ?_⟩
  · obtain ⟨t, cs, hb, n1, n2⟩ := hf k hm
    exact own_blk_ne h2 hb (Ne.symm n2)
  · obtain ⟨t, cs, hb, n1, n2⟩ := hf j hm
    exact own_blk_ne (h3 k h h') hb (Ne.symm n1)
theorem SsAt.below {w W W' : World} {v : Value} {Ls : List (List Sy)} (H : SsAt w W v Ls) (hb : Below W.heap.size W W') : SsAt w W' v Ls := H.kb (Kb.of_below [] hb) (by simp)
theorem SsAt.grow {w W w2 : World} {v v' u : Value} {Ls : List (List Sy)} {L : List Sy} {X : Obj} {vs : List Value} (h1 : vs.length = Ls.length) (h2 : W.ownsRow w.heap.size 35 1 v Ls.length vs) (h3 : ∀ k (h : k < vs.length) (h2 : k < Ls.length), W.ownsRow w.heap.size 52 2 vs[k] Ls[k].length (cellsP Ls[k]))
    (hu : W.ownsRow w.heap.size 52 2 u L.length (cellsP L)) (hown : w2.ownsRow w.heap.size 35 1 v' (Ls.length + 1) (vs ++ [u])) (hg : (W.alloc X).grownBy w2 v.ownBlock) : SsAt w w2 v' (Ls ++ [L]) := by
  have hal := below_alloc (Below.refl _ W) X
  have keep : ∀ {n : Nat} {x : Value} {xs : List Value}, W.ownsRow w.heap.size 52 2 x n xs → w2.ownsRow w.heap.size 52 2 x n xs := fun {n x xs} h => own2_keep h fun k hk => by
    have hlt := own2_lt h hk
    have hne : some k ≠ v.ownBlock := fun he => by
      rcases h2.2 with ⟨rfl, _⟩ | ⟨g, cap, cur, rfl, hb, hh, _⟩
      · simp [Value.ownBlock] at he
      · have e1 : k = g := by simpa [Value.ownBlock] using he
        subst e1
        exact own_blk_ne h (show Blk W k 35 cur from hh) (by decide) hk
    have := hal.size
    rw [hg.block k (by omega) hne]
    exact hal.block k hlt.2
  refine ⟨vs ++ [u], by simp [h1], by rw [List.length_append]; exact hown, fun k h h' => ?_⟩
  rw [List.length_append] at h h'
  by_cases hk : k < vs.length
  · rw [List.getElem_append_left hk, List.getElem_append_left (by omega)]
    exact keep (h3 k hk (by omega))
  · have e1 : k = vs.length := by simp at h; omega
    subst e1
    rw [List.getElem_append_right (by omega)]
    have : (Ls ++ [L])[vs.length]'(by simp; omega) = L := by
      rw [List.getElem_append_right (by omega)]
      simp [h1]
    rw [this]
    simp
    exact keep hu
end Go.Proofs.YtbhjapgioaiocaaDoor
