/-
  Layer 15: what the symbols of a pass are.
-/
import Derived.Test.YtbhjapgioaiocaaDoorFc
set_option maxRecDepth 100000
namespace Go.Proofs.YtbhjapgioaiocaaDoor
open Go.RowKit

/-- A list of symbols of a pass: bits, contexts in their range. -/
def Gd (p : Pp) (l : List Sy) : Prop := ∀ z ∈ l, (z.2 = 0 ∨ z.2 = 1) ∧ ∃ c, 0 ≤ c ∧ c ≤ 18 ∧ z.1 = cxP p c
section
variable {p : Pp} {e : Es}
theorem Gd.put (h : Gd p e.2) {c b : Int} (hc : 0 ≤ c ∧ c ≤ 18) (hb : b = 0 ∨ b = 1) : Gd p (putS p e c b).2 := by
  intro z hz
  unfold putS at hz
  rcases List.mem_append.1 hz with hz | hz
  · exact h z hz
  · simp at hz
    subst hz
    exact ⟨hb, c, hc.1, hc.2, rfl⟩
theorem sgC_in (x y : Int) (hx : x = -1 ∨ x = 0 ∨ x = 1) (hy : y = -1 ∨ y = 0 ∨ y = 1) : 0 ≤ Cx.sgC x y ∧ Cx.sgC x y ≤ 18 := by
  rcases hx with rfl | rfl | rfl <;> rcases hy with rfl | rfl | rfl <;> decide
theorem strM_le (p s d : Nat) (hs : s < 3) : Cx.strM p s d ≤ 8 := by
  unfold Cx.strM
  repeat' split
  all_goals omega
theorem diaM_le (n d : Nat) : Cx.diaM n d ≤ 8 := by
  unfold Cx.diaM
  repeat' split
  all_goals omega
theorem sigM_in (o h v d : Int) : 0 ≤ Cx.sigM o h v d ∧ Cx.sigM o h v d ≤ 18 := by
  unfold Cx.sigM Cx.sigN
  have h1 := strM_le (Cx.l2 h) (Cx.l2 v) (Cx.l4 d) (Cx.l2_lt v)
  have h2 := strM_le (Cx.l2 v) (Cx.l2 h) (Cx.l4 d) (Cx.l2_lt h)
  have h3 := diaM_le (Cx.l2 h + Cx.l2 v) (Cx.l4 d)
  repeat' split
  all_goals omega
theorem Gd.sign (h : Gd p e.2) (x y : Int) : Gd p (signS p e x y).2 :=
  h.put (c := sgnC p e.1 x y) (b := xorM (negM (e.1.v x y)) (sgnF p e.1 x y)) (sgC_in _ _ (Cx.l1_cases _) (Cx.l1_cases _)) (xorM_in _ _)
theorem Gd.code (h : Gd p e.2) (x y : Int) : Gd p (codeS p e x y).2 := by
  have h1 := h.put (sigM_in p.o (nbH e.1 x y) (nbV e.1 x y p.c) (nbD e.1 x y p.c)) (bitM_in (e.1.v x y) p.s)
  unfold codeS
  split
  · exact h1.sign x y
  · exact h1
theorem Gd.sig (h : Gd p e.2) (z : Int × Int) : Gd p (sigS p e z).2 := by
  unfold sigS
  split
  · exact h.code z.1 z.2
  · exact h
theorem refM_in (f n : Bool) : 0 ≤ Cx.refM f n ∧ Cx.refM f n ≤ 18 := by cases f <;> cases n <;> decide
theorem Gd.ref (h : Gd p e.2) (z : Int × Int) : Gd p (refS p e z).2 := by
  unfold refS
  split
  · exact h.put (refM_in _ _) (bitM_in _ _)
  · exact h
theorem Gd.cln (h : Gd p e.2) (z : Int × Int) : Gd p (clnS p e z).2 := by
  unfold clnS
  split
  · exact h
  · exact h.code z.1 z.2
theorem Gd.fold {α : Type} (f : Es → α → Es) (hf : ∀ e z, Gd p e.2 → Gd p (f e z).2) (l : List α) : ∀ e : Es, Gd p e.2 → Gd p (l.foldl f e).2 := by
  induction l with
  | nil => exact fun e h => h
  | cons a l ih => exact fun e h => ih _ (hf e a h)
theorem Gd.run (h : Gd p e.2) (x top : Nat) : Gd p (runS p e x top).2 := by
  unfold runS
  have hz := zer_le (oneQ p e.1 x top)
  split
  · exact h.put (by decide) (.inl rfl)
  · refine Gd.sign (((h.put (by decide) (.inr rfl)).put (by decide) ?_).put (by decide) ?_) _ _
    · rename_i hn
      unfold zerQ at *
      omega
    · omega
theorem Gd.col (h : Gd p e.2) (x top n : Nat) : Gd p (colS p e x top n).2 := by
  unfold colS
  split
  · exact Gd.fold _ (fun e z h => h.cln z) _ _ (h.run x top)
  · exact Gd.fold _ (fun e z h => h.cln z) _ _ h
theorem Gd.cl (h : Gd p e.2) (k : Nat) : Gd p (clS p e k).2 := Gd.fold _ (fun _ _ h => Gd.fold _ (fun _ _ h => h.col _ _ _) _ _ h) _ _ h
theorem off_l (l : List (Int × Int)) : ∀ e : Es, (offS p e l).2 = e.2 := by
  induction l with
  | nil => exact fun e => rfl
  | cons a l ih => exact fun e => (ih _).trans rfl
theorem Gd.clean (h : Gd p e.2) (y : Bool) : Gd p (cleanS p y e).2 := by
  have h1 : Gd p (offS p (clS p e ((p.h + 3) / 4)) (scan p.w p.h)).2 := by rw [off_l]; exact h.cl _
  unfold cleanS endS chkS
  split
  · exact (((h1.put (by decide) (.inr rfl)).put (by decide) (.inl rfl)).put (by decide) (.inr rfl)).put (by decide) (.inl rfl)
  · exact h1
theorem Gd.pass (h : Gd p e.2) (k : Int) (y : Bool) : Gd p (passS p k y e).2 := by
  unfold passS
  split
  · exact Gd.fold _ (fun e z h => h.sig z) _ _ h
  split
  · exact Gd.fold _ (fun e z h => h.ref z) _ _ h
  · exact h.clean y
end
theorem gd_sym (w h : Nat) (planes o : Int) (m : Mo) (q : St) (k : Nat) : Gd (ppR w h (k : Int) planes o m) (symP w h planes o m q k) := Gd.pass (fun z hz => by simp at hz) _ _
theorem chkS_l (p : Pp) (e : Es) : (chkS p e).2 = e.2 ++ [(cxP p 18, 1), (cxP p 18, 0), (cxP p 18, 1), (cxP p 18, 0)] := by unfold chkS putS; simp
/-- The check symbols at the end of a cleanup pass. -/
theorem chk_end (w h : Nat) (planes o : Int) (m : Mo) (q : St) (k : Nat) (hk : kndP (k : Int) = 2) (hy : m.y = true) : ∃ l0, symP w h planes o m q k = l0 ++ [(18, 1), (18, 0), (18, 1), (18, 0)] := by
  have hr : (ppR w h (k : Int) planes o m).raw = false := by
    show rawM (k : Int) m.b = false
    unfold rawM
    rw [hk]
    simp
  have e : symP w h planes o m q k = (cleanS (ppR w h (k : Int) planes o m) true (blkP w h planes o m q k, [])).2 := by
    unfold symP runQ passS
    rw [hk, hy, if_neg (by decide), if_neg (by decide)]
  rw [e]
  unfold cleanS endS
  rw [if_pos rfl, chkS_l]
  have hc : cxP (ppR w h (k : Int) planes o m) 18 = 18 := by unfold cxP; rw [hr]; rfl
  rw [hc]
  exact ⟨_, rfl⟩
theorem raw_c2 (c : Int) (hc : 0 ≤ c ∧ c ≤ 18) (p : Pp) : (cxP p c == -1) = p.raw ∧ -1 ≤ cxP p c ∧ cxP p c ≤ 18 := by
  unfold cxP
  cases p.raw
  · simp; omega
  · simp
theorem passS_len (p : Pp) (k : Int) (y : Bool) (e : Es) (hw : p.w ≤ 64) (hh : p.h ≤ 64) : (passS p k y e).2.length ≤ e.2.length + 20000 := by
  have hs := scan_l p.w p.h hw hh
  unfold passS
  split
  · have := foldl_len (sigS p) 2 (sigS_len p) (scan p.w p.h) e
    omega
  split
  · have := foldl_len (refS p) 2 (refS_len p) (scan p.w p.h) e
    omega
  · have h1 := clS_len p e ((p.h + 3) / 4)
    have h2 : 12 * p.w * ((p.h + 3) / 4) ≤ 12 * 64 * 16 := Nat.mul_le_mul (Nat.mul_le_mul_left _ hw) (by omega)
    have h3 := offS_len p (clS p e ((p.h + 3) / 4)) (scan p.w p.h)
    unfold cleanS endS
    split
    · rw [chkS_l]
      simp
      omega
    · omega
theorem sym_len (w h : Nat) (planes o : Int) (m : Mo) (q : St) (k : Nat) (hw : w ≤ 64) (hh : h ≤ 64) : (symP w h planes o m q k).length ≤ 20000 := by
  have := passS_len (ppR w h (k : Int) planes o m) (kndP (k : Int)) m.y (blkP w h planes o m q k, []) hw hh
  have h2 : (symP w h planes o m q k).length ≤ ([] : List Sy).length + 20000 := this
  simpa using h2
theorem symL_at (w h : Nat) (planes o : Int) (m : Mo) (q : St) (n k : Nat) (hk : k < (symL w h planes o m q n).length) : (symL w h planes o m q n)[k] = symP w h planes o m q k := by
  have e : symL w h planes o m q n = (List.range n).map (symP w h planes o m q) := rfl
  have h2 : (symL w h planes o m q n)[k]? = some (symP w h planes o m q k) := by
    rw [e, List.getElem?_map]
    have : k < n := by rw [e] at hk; simpa using hk
    rw [List.getElem?_range this]
    rfl
  exact (List.getElem?_eq_some_iff.1 h2).2
theorem symL_len (w h : Nat) (planes o : Int) (m : Mo) (q : St) (n : Nat) : (symL w h planes o m q n).length = n := by unfold symL; simp
theorem ss_at {w W : World} {s : Option Addr} {n m : Nat} {L : List (List Sy)} (H : SsAt w W (.slice s n m) L) {k : Nat} (hk : k < L.length) : ∃ b sk mk, s = some ⟨b, 0, none⟩ ∧ W.cell? ⟨b, k, none⟩ = some (.slice sk L[k].length mk) ∧ HoldsY W sk L[k] ∧ L[k].length ≤ mk := by
  obtain ⟨vs, h1, h2, h3⟩ := H.ex
  have hn : n = L.length := by
    rcases h2.2 with ⟨e, h0⟩ | ⟨g, cap, cur, e, _⟩
    · simp at e; omega
    · simp at e; omega
  subst hn
  obtain ⟨g, rfl, hc, _⟩ := own_at h2 k hk
  have hv := h3 k (by omega) hk
  obtain ⟨sk, mk, e⟩ := own2_slice hv
  rw [e] at hv
  refine ⟨g, sk, mk, rfl, by rw [hc, List.getElem?_eq_getElem (by omega), e], (own_holdsY hv).2, ?_⟩
  rcases hv.2 with ⟨e, h0⟩ | ⟨g, cap, cur, e, _, _, _, hm, _⟩
  · omega
  · simp at e; omega
theorem ss_cap {w W : World} {v : Value} {L : List (List Sy)} (H : SsAt w W v L) : ∃ s m, v = .slice s L.length m ∧ HoldsZ W s L ∧ L.length ≤ m := by
  obtain ⟨s, m, rfl, h⟩ := ss_holds H
  refine ⟨s, m, rfl, h, ?_⟩
  obtain ⟨vs, h1, h2, h3⟩ := H.ex
  rcases h2.2 with ⟨e, h0⟩ | ⟨g, cap, cur, e, _, _, _, hm, _⟩
  · omega
  · simp at e; omega
theorem HoldsZ.take {w : World} {s : Option Addr} {L : List (List Sy)} (h : HoldsZ w s L) (n : Nat) : HoldsZ w s (L.take n) := by
  rcases h with rfl | ⟨b, off, rfl, hr⟩
  · exact .inl (by simp)
  · refine .inr ⟨b, off, rfl, fun k hk => ?_⟩
    rw [List.length_take] at hk
    rw [List.getElem_take]
    exact hr k (by omega)
theorem holdsY_part {w : World} {b off : Nat} {l : List Sy} (h : HoldsY w (some ⟨b, off, none⟩) l) (k : Nat) : HoldsY w (some ⟨b, off + k * 2, none⟩) (l.drop k) := by
  rcases h with rfl | ⟨b', o', e, hr⟩
  · exact .inl (by simp)
  · cases e
    refine .inr ⟨b, off + k * 2, rfl, fun j hj => ?_⟩
    have hj2 : k + j < l.length := by rw [List.length_drop] at hj; omega
    have := hr (k + j) hj2
    rw [List.getElem_drop, show off + k * 2 + j * 2 = off + (k + j) * 2 by omega]
    exact this
end Go.Proofs.YtbhjapgioaiocaaDoor
