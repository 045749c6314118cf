/-
  Layer 15: how many bits of coefficients the passes code.
-/
import Derived.Test.YtbhjapgioaiocaaDoorMc
set_option maxRecDepth 100000
namespace Go.Proofs.YtbhjapgioaiocaaDoor
open Go.RowKit

/-- The place of a coefficient, row by row. -/
def posP (w : Nat) (p : Int × Int) : Nat := p.2.toNat * w + p.1.toNat
theorem colP_in (x top n : Nat) : ∀ p ∈ colP x top n, ∃ Y : Nat, p = ((x : Int), (Y : Int)) ∧ top ≤ Y ∧ Y < top + n := by
  intro p hp
  simp only [colP, List.mem_map, List.mem_range] at hp
  obtain ⟨i, hi, rfl⟩ := hp
  exact ⟨top + i, rfl, by omega, by omega⟩
theorem strP_in (top n k : Nat) : ∀ p ∈ strP top n k, ∃ X Y : Nat, p = ((X : Int), (Y : Int)) ∧ X < k ∧ top ≤ Y ∧ Y < top + n := by
  intro p hp
  simp only [strP, List.mem_flatMap, List.mem_range] at hp
  obtain ⟨x, hx, hp⟩ := hp
  obtain ⟨Y, rfl, h1, h2⟩ := colP_in x top n p hp
  exact ⟨x, Y, rfl, hx, h1, h2⟩
theorem scnP_in (w h q : Nat) : ∀ p ∈ scnP w h q, ∃ X Y : Nat, p = ((X : Int), (Y : Int)) ∧ X < w ∧ Y < h ∧ Y < 4 * q := by
  intro p hp
  simp only [scnP, List.mem_flatMap, List.mem_range] at hp
  obtain ⟨s, hs, hp⟩ := hp
  obtain ⟨X, Y, rfl, h0, h1, h2⟩ := strP_in _ _ _ p hp
  exact ⟨X, Y, rfl, h0, by omega, by omega⟩
theorem colP_nodup (x top n : Nat) : (colP x top n).Nodup := by
  induction n with
  | zero => simp [colP]
  | succ n ih =>
    rw [colP_succ, List.nodup_append]
    refine ⟨ih, by simp, ?_⟩
    intro a ha b hb hab
    obtain ⟨Y, rfl, h1, h2⟩ := colP_in x top n a ha
    simp only [List.mem_singleton] at hb
    rw [hb] at hab
    have := congrArg Prod.snd hab
    simp only at this
    omega
theorem strP_nodup (top n k : Nat) : (strP top n k).Nodup := by
  induction k with
  | zero => simp [strP]
  | succ k ih =>
    rw [strP_succ, List.nodup_append]
    refine ⟨ih, colP_nodup _ _ _, ?_⟩
    intro a ha b hb hab
    obtain ⟨X, Y, rfl, h1, h2, h3⟩ := strP_in top n k a ha
    obtain ⟨Y', rfl, h4, h5⟩ := colP_in k top n b hb
    have := congrArg Prod.fst hab
    simp only at this
    omega
theorem scnP_nodup (w h q : Nat) : (scnP w h q).Nodup := by
  induction q with
  | zero => simp [scnP]
  | succ q ih =>
    rw [scnP_succ, List.nodup_append]
    refine ⟨ih, strP_nodup _ _ _, ?_⟩
    intro a ha b hb hab
    obtain ⟨X, Y, rfl, h1, h2, h3⟩ := scnP_in w h q a ha
    obtain ⟨X', Y', rfl, h4, h5, h6⟩ := strP_in _ _ _ b hb
    have := congrArg Prod.snd hab
    simp only at this
    omega
theorem scnP_size (w h q : Nat) : (scnP w h q).length = w * min h (4 * q) := by
  induction q with
  | zero => simp [scnP]
  | succ q ih =>
    rw [scnP_succ, List.length_append, strP_len, ih, ← Nat.mul_add]
    congr 1
    omega
theorem scan_size (w h : Nat) : (scan w h).length = w * h := by
  unfold scan
  rw [scnP_size, show min h (4 * ((h + 3) / 4)) = h by omega]
/-- A list of symbols, and how many bits of coefficients it codes. -/
inductive Ok : List Sy → Nat → Prop
  | nil : Ok [] 0
  | one (c b : Int) (t : List Sy) (n : Nat) (hc : c ≤ 8 ∨ (14 ≤ c ∧ c ≤ 16)) (h : Ok t n) : Ok ((c, b) :: t) (n + 1)
  | skip (c b : Int) (t : List Sy) (n : Nat) (hc : 9 ≤ c ∧ c ≤ 13) (h : Ok t n) : Ok ((c, b) :: t) n
  | run0 (t : List Sy) (n : Nat) (h : Ok t n) : Ok ((17, 0) :: t) (n + 4)
  | run1 (a b : Nat) (t : List Sy) (n : Nat) (ha : a ≤ 1) (hb : b ≤ 1) (h : Ok t n) : Ok ((17, 1) :: (18, (a : Int)) :: (18, (b : Int)) :: t) (n + (2 * a + b + 1))
theorem Ok.app {l l' : List Sy} {n m : Nat} (h : Ok l n) (h' : Ok l' m) : Ok (l ++ l') (n + m) := by
  induction h with
  | nil => rw [Nat.zero_add]; exact h'
  | one c b t n hc _ ih => rw [show n + 1 + m = n + m + 1 by omega]; exact Ok.one c b _ _ hc ih
  | skip c b t n hc _ ih => exact Ok.skip c b _ _ hc ih
  | run0 t n _ ih => rw [show n + 4 + m = n + m + 4 by omega]; exact Ok.run0 _ _ ih
  | run1 a b t n ha hb _ ih => rw [show n + (2 * a + b + 1) + m = n + m + (2 * a + b + 1) by omega]; exact Ok.run1 a b _ _ ha hb ih
section
variable {p : Pp} {e : Es} {n : Nat}
theorem cx_raw (hr : p.raw = false) (c : Int) : cxP p c = c := by unfold cxP; rw [hr]; rfl
theorem Ok.putc (h : Ok e.2 n) (hr : p.raw = false) (c b : Int) (hc : c ≤ 8 ∨ (14 ≤ c ∧ c ≤ 16)) : Ok (putS p e c b).2 (n + 1) := by
  have := h.app (Ok.one c b [] 0 hc Ok.nil)
  rw [← cx_raw hr c] at this
  exact this
theorem sgC_9 (x y : Int) (hx : x = -1 ∨ x = 0 ∨ x = 1) (hy : y = -1 ∨ y = 0 ∨ y = 1) : 9 ≤ Cx.sgC x y ∧ Cx.sgC x y ≤ 13 := by
  rcases hx with rfl | rfl | rfl <;> rcases hy with rfl | rfl | rfl <;> decide
theorem Ok.sign (h : Ok e.2 n) (hr : p.raw = false) (x y : Int) : Ok (signS p e x y).2 n := by
  have := h.app (Ok.skip (sgnC p e.1 x y) (xorM (negM (e.1.v x y)) (sgnF p e.1 x y)) [] 0 (sgC_9 _ _ (Cx.l1_cases _) (Cx.l1_cases _)) Ok.nil)
  rw [← cx_raw hr (sgnC p e.1 x y)] at this
  exact this
theorem sigM_8 (o h v d : Int) : Cx.sigM o h v d ≤ 8 := by
  unfold Cx.sigM Cx.sigN
  have h1 := strM_le (Cx.l2 h) (Cx.l2 v) (Cx.l4 d) (Cx.l2_lt v)
  have h2 := strM_le (Cx.l2 v) (Cx.l2 h) (Cx.l4 d) (Cx.l2_lt h)
  have h3 := diaM_le (Cx.l2 h + Cx.l2 v) (Cx.l4 d)
  repeat' split
  all_goals omega
theorem Ok.code (h : Ok e.2 n) (hr : p.raw = false) (x y : Int) : Ok (codeS p e x y).2 (n + 1) := by
  unfold codeS
  have h1 := h.putc hr (sigC p e.1 x y) (bitM (e.1.v x y) p.s) (.inl (sigM_8 _ _ _ _))
  split
  · exact h1.sign hr x y
  · exact h1
end
/-- How many points of a list have a property. -/
def cntF (f : Int → Int → Bool) (l : List (Int × Int)) : Nat := l.countP fun z => f z.1 z.2
theorem cntF_cons (f : Int → Int → Bool) (z : Int × Int) (l : List (Int × Int)) : cntF f (z :: l) = cntF f l + (if f z.1 z.2 then 1 else 0) := by unfold cntF; rw [List.countP_cons]
theorem cntF_app (f : Int → Int → Bool) (l m : List (Int × Int)) : cntF f (l ++ m) = cntF f l + cntF f m := by unfold cntF; rw [List.countP_append]
theorem cntF_ext {f g : Int → Int → Bool} {l : List (Int × Int)} (h : ∀ z ∈ l, f z.1 z.2 = g z.1 z.2) : cntF f l = cntF g l := by
  unfold cntF
  exact List.countP_congr fun z hz => by rw [h z hz]
theorem cntF_all {f : Int → Int → Bool} {l : List (Int × Int)} (h : ∀ z ∈ l, f z.1 z.2 = true) : cntF f l = l.length := by
  unfold cntF
  exact List.countP_eq_length.2 h
theorem cntF_none {f : Int → Int → Bool} {l : List (Int × Int)} (h : ∀ z ∈ l, f z.1 z.2 = false) : cntF f l = 0 := by
  unfold cntF
  exact List.countP_eq_zero.2 fun z hz => by rw [h z hz]; decide
theorem cntF_not (f g : Int → Int → Bool) (l : List (Int × Int)) (h : ∀ z ∈ l, g z.1 z.2 = !f z.1 z.2) : cntF f l + cntF g l = l.length := by
  induction l with
  | nil => rfl
  | cons a l ih =>
    have h1 := ih fun z hz => h z (List.mem_cons_of_mem _ hz)
    have h2 := h a (by simp)
    rw [cntF_cons, cntF_cons, List.length_cons, h2]
    cases f a.1 a.2 <;> simp <;> omega
def nst (q : St) : Int → Int → Bool := fun x y => !(q.s x y || q.t x y)
section
variable {p : Pp} {n : Nat}
theorem codeS_t (p : Pp) (e : Es) (x y : Int) : (codeS p e x y).1.t = e.1.t := by
  have hm : ∀ q : St, (markQ p.w p.h q x y).t = q.t := fun q => by unfold markQ; split <;> rfl
  unfold codeS
  split
  · exact hm _
  · rfl
theorem codeS_s (p : Pp) (e : Es) (x y X Y : Int) (h : ¬ (X = x ∧ Y = y)) : (codeS p e x y).1.s X Y = e.1.s X Y := by
  have hm : ∀ q : St, (markQ p.w p.h q x y).s X Y = q.s X Y := fun q => by
    unfold markQ
    split
    · exact upd_far _ _ _ _ _ _ h
    · rfl
  unfold codeS
  split
  · exact hm _
  · rfl
theorem touch_at (w h : Nat) (q : St) (x y : Int) (b : Bool) (hi : inB w h x y) : (touchQ w h q x y b).t x y = b := by unfold touchQ; rw [if_pos hi]; exact upd_same _ _ _ _
theorem touch_far (w h : Nat) (q : St) (x y : Int) (b : Bool) (X Y : Int) (hn : ¬ (X = x ∧ Y = y)) : (touchQ w h q x y b).t X Y = q.t X Y := by
  unfold touchQ
  split
  · exact upd_far _ _ _ _ _ _ hn
  · rfl
theorem touch_s (w h : Nat) (q : St) (x y : Int) (b : Bool) : (touchQ w h q x y b).s = q.s := by unfold touchQ; split <;> rfl
theorem pt_ne {z u : Int × Int} {l : List (Int × Int)} (hz : z ∉ l) (hu : u ∈ l) : ¬ (z.1 = u.1 ∧ z.2 = u.2) := fun h => hz (by have : z = u := Prod.ext h.1 h.2; rw [this]; exact hu)
theorem sig_cnt (hr : p.raw = false) (l : List (Int × Int)) : ∀ (e : Es) (n : Nat), l.Nodup → (∀ z ∈ l, inB p.w p.h z.1 z.2) → (∀ z ∈ l, e.1.t z.1 z.2 = false) → Ok e.2 n → Ok (l.foldl (sigS p) e).2 (n + cntF (l.foldl (sigS p) e).1.t l) ∧ ∀ z : Int × Int, z ∉ l → (l.foldl (sigS p) e).1.t z.1 z.2 = e.1.t z.1 z.2 := by
  induction l with
  | nil => exact fun e n _ _ _ h => ⟨h, fun _ _ => rfl⟩
  | cons a l ih =>
    intro e n hnd hin ht h
    obtain ⟨ha, hnd2⟩ := List.nodup_cons.1 hnd
    have hfar : ∀ z : Int × Int, ¬ (z.1 = a.1 ∧ z.2 = a.2) → (sigS p e a).1.t z.1 z.2 = e.1.t z.1 z.2 := fun z hz => by
      unfold sigS
      split
      · exact (touch_far _ _ _ _ _ _ _ _ hz).trans (by rw [codeS_t])
      · rfl
    obtain ⟨h1, h2⟩ : Ok (sigS p e a).2 (n + (if (sigS p e a).1.t a.1 a.2 then 1 else 0)) ∧ True := by
      refine ⟨?_, trivial⟩
      unfold sigS
      split
      · have : (touchS p (codeS p e a.1 a.2) a.1 a.2 true).1.t a.1 a.2 = true := touch_at _ _ _ _ _ _ (hin a (by simp))
        rw [this]
        exact h.code hr _ _
      · rw [ht a (by simp)]
        exact h
    obtain ⟨h3, h4⟩ := ih (sigS p e a) _ hnd2 (fun z hz => hin z (List.mem_cons_of_mem _ hz)) (fun z hz => by rw [hfar z (fun h => ha (by have : a = z := Prod.ext h.1.symm h.2.symm; rw [this]; exact hz))]; exact ht z (List.mem_cons_of_mem _ hz)) h1
    rw [List.foldl_cons]
    refine ⟨?_, fun z hz => ?_⟩
    · rw [cntF_cons, h4 a ha]
      rw [show n + (cntF (l.foldl (sigS p) (sigS p e a)).1.t l + (if (sigS p e a).1.t a.1 a.2 then 1 else 0)) = n + (if (sigS p e a).1.t a.1 a.2 then 1 else 0) + cntF (l.foldl (sigS p) (sigS p e a)).1.t l by omega]
      exact h3
    · rw [h4 z (fun h => hz (List.mem_cons_of_mem _ h))]
      exact hfar z (pt_ne hz (by simp))
theorem ref_cnt (hr : p.raw = false) (l : List (Int × Int)) : ∀ (e : Es) (n : Nat), l.Nodup → (∀ z ∈ l, inB p.w p.h z.1 z.2) → Ok e.2 n → (∃ m, Ok (l.foldl (refS p) e).2 (n + m) ∧ m + cntF e.1.t l = cntF (l.foldl (refS p) e).1.t l) ∧ (∀ z : Int × Int, z ∉ l → (l.foldl (refS p) e).1.t z.1 z.2 = e.1.t z.1 z.2) ∧ (l.foldl (refS p) e).1.s = e.1.s ∧ ∀ z ∈ l, e.1.s z.1 z.2 = true → (l.foldl (refS p) e).1.t z.1 z.2 = true := by
  induction l with
  | nil => exact fun e n _ _ h => ⟨⟨0, h, rfl⟩, fun _ _ => rfl, rfl, fun z hz => by simp at hz⟩
  | cons a l ih =>
    intro e n hnd hin h
    obtain ⟨ha, hnd2⟩ := List.nodup_cons.1 hnd
    have rt : ∀ q : St, (refineQ p.w p.h q a.1 a.2).t = q.t := fun q => by unfold refineQ; split <;> rfl
    have rs : ∀ q : St, (refineQ p.w p.h q a.1 a.2).s = q.s := fun q => by unfold refineQ; split <;> rfl
    have hfar : ∀ z : Int × Int, ¬ (z.1 = a.1 ∧ z.2 = a.2) → (refS p e a).1.t z.1 z.2 = e.1.t z.1 z.2 := fun z hz => by
      unfold refS
      split
      · exact (touch_far _ _ _ _ _ _ _ _ hz).trans (by show (refineQ _ _ _ _ _).t _ _ = _; rw [rt]; rfl)
      · rfl
    have hs : (refS p e a).1.s = e.1.s := by
      unfold refS
      split
      · exact (touch_s _ _ _ _ _ _).trans (rs _)
      · rfl
    obtain ⟨m0, h1, h2, h2b⟩ : ∃ m0, Ok (refS p e a).2 (n + m0) ∧ m0 + (if e.1.t a.1 a.2 then 1 else 0) = (if (refS p e a).1.t a.1 a.2 then 1 else 0) ∧ (e.1.s a.1 a.2 = true → (refS p e a).1.t a.1 a.2 = true) := by
      by_cases hc : (e.1.s a.1 a.2 && !e.1.t a.1 a.2) = true
      · have h5 : (refS p e a).1.t a.1 a.2 = true := by
          unfold refS
          rw [if_pos hc]
          exact touch_at _ _ _ _ _ _ (hin a (by simp))
        have h6 : e.1.t a.1 a.2 = false := by simp at hc; exact hc.2
        refine ⟨1, ?_, by rw [h5, h6]; rfl, fun _ => h5⟩
        unfold refS
        rw [if_pos hc]
        exact h.putc hr _ _ (.inr (by unfold refC; cases (!e.1.r a.1 a.2) <;> cases nearQ p e.1 a.1 a.2 <;> decide))
      · have h5 : refS p e a = e := by unfold refS; rw [if_neg hc]
        refine ⟨0, by rw [h5]; exact h, by rw [h5, Nat.zero_add], fun hs => ?_⟩
        rw [h5]
        simp at hc
        exact hc hs
    obtain ⟨⟨m, h3, h4⟩, h5, h6, h7⟩ := ih (refS p e a) _ hnd2 (fun z hz => hin z (List.mem_cons_of_mem _ hz)) h1
    rw [List.foldl_cons]
    refine ⟨⟨m0 + m, by rw [← Nat.add_assoc]; exact h3, ?_⟩, fun z hz => ?_, h6.trans hs, fun z hz hsz => ?_⟩
    · rw [cntF_cons, cntF_cons, h5 a ha]
      have : cntF (refS p e a).1.t l = cntF e.1.t l := cntF_ext fun z hz => hfar z (fun h => ha (by have : a = z := Prod.ext h.1.symm h.2.symm; rw [this]; exact hz))
      omega
    · rw [h5 z (fun h => hz (List.mem_cons_of_mem _ h))]
      exact hfar z (pt_ne hz (by simp))
    · rcases List.mem_cons.1 hz with rfl | h8
      · rw [h5 z ha]; exact h2b hsz
      · exact h7 z h8 (by rw [hs]; exact hsz)
theorem cln_cnt (hr : p.raw = false) (l : List (Int × Int)) : ∀ (e : Es) (n : Nat), l.Nodup → Ok e.2 n → Ok (l.foldl (clnS p) e).2 (n + cntF (nst e.1) l) ∧ (l.foldl (clnS p) e).1.t = e.1.t ∧ ∀ z : Int × Int, z ∉ l → (l.foldl (clnS p) e).1.s z.1 z.2 = e.1.s z.1 z.2 := by
  induction l with
  | nil => exact fun e n _ h => ⟨h, rfl, fun _ _ => rfl⟩
  | cons a l ih =>
    intro e n hnd h
    obtain ⟨ha, hnd2⟩ := List.nodup_cons.1 hnd
    have hfar : ∀ z : Int × Int, ¬ (z.1 = a.1 ∧ z.2 = a.2) → (clnS p e a).1.s z.1 z.2 = e.1.s z.1 z.2 := fun z hz => by
      unfold clnS
      split
      · rfl
      · exact codeS_s _ _ _ _ _ _ hz
    have ht : (clnS p e a).1.t = e.1.t := by
      unfold clnS
      split
      · rfl
      · exact codeS_t _ _ _ _
    have h1 : Ok (clnS p e a).2 (n + (if nst e.1 a.1 a.2 then 1 else 0)) := by
      unfold clnS nst
      by_cases hc : (e.1.s a.1 a.2 || e.1.t a.1 a.2) = true
      · rw [if_pos hc, hc]; exact h
      · rw [if_neg hc]
        have : (e.1.s a.1 a.2 || e.1.t a.1 a.2) = false := by simpa using hc
        rw [this]
        exact h.code hr _ _
    obtain ⟨h3, h4, h5⟩ := ih (clnS p e a) _ hnd2 h1
    rw [List.foldl_cons]
    refine ⟨?_, h4.trans ht, fun z hz => ?_⟩
    · have : cntF (nst (clnS p e a).1) l = cntF (nst e.1) l := cntF_ext fun z hz => by
        unfold nst
        rw [ht, hfar z (fun h => ha (by have : a = z := Prod.ext h.1.symm h.2.symm; rw [this]; exact hz))]
      rw [this] at h3
      rw [cntF_cons, show n + (cntF (nst e.1) l + (if nst e.1 a.1 a.2 then 1 else 0)) = n + (if nst e.1 a.1 a.2 then 1 else 0) + cntF (nst e.1) l by omega]
      exact h3
    · rw [h5 z (fun h => hz (List.mem_cons_of_mem _ h))]
      exact hfar z (pt_ne hz (by simp))
end
end Go.Proofs.YtbhjapgioaiocaaDoor
