/-
  Layer 16: the passes of the decoder in mathematics, over any oracle.
  Layer 16: what a pass of the decoder keeps: values below 2^60.
  Layer 16: oracles: what a pass reaches, and two oracles side by side.
-/
import Derived.Test.YtbhjapgioaiocaaDoorMa
import Derived.Test.YtbhjapgioaiocaaDoorPe
import Derived.Test.YtbhjapgioaiocaaDoorEm
set_option maxRecDepth 100000
namespace Go.Proofs.YtbhjapgioaiocaaDoor
open Go.RowKit

section
variable {σ : Type}
/-- What answers a question: a bit (0, or anything else for 1) and the state behind it. -/
abbrev Orc (σ : Type) := σ → Int → Int × σ
def bitA (b : Int) : Int := if b = 0 then 0 else 1
theorem bitA_in (b : Int) : bitA b = 0 ∨ bitA b = 1 := by unfold bitA; split <;> simp
def askB (p : Pp) (A : Orc σ) (e : St × σ) (c : Int) : Int := bitA (A e.2 (cxP p c)).1
def askE (p : Pp) (A : Orc σ) (e : St × σ) (c : Int) : St × σ := (e.1, (A e.2 (cxP p c)).2)
theorem askB_in (p : Pp) (A : Orc σ) (e : St × σ) (c : Int) : askB p A e c = 0 ∨ askB p A e c = 1 := bitA_in _
def wgt (p : Pp) : Int := 2 ^ p.s
def valM (p : Pp) (b f : Int) : Int := if xorM b f = 1 then -(wgt p) else wgt p
def dsignS (p : Pp) (A : Orc σ) (e : St × σ) (x y : Int) : St × σ :=
  (markQ p.w p.h (setQ p.w p.h e.1 x y (valM p (askB p A e (sgnC p e.1 x y)) (sgnF p e.1 x y))) x y, (askE p A e (sgnC p e.1 x y)).2)
def drestS (p : Pp) (A : Orc σ) (e : St × σ) (x y : Int) : St × σ :=
  if askB p A e (sigC p e.1 x y) = 1 then dsignS p A (askE p A e (sigC p e.1 x y)) x y else askE p A e (sigC p e.1 x y)
def dtouchS (p : Pp) (e : St × σ) (x y : Int) (b : Bool) : St × σ := (touchQ p.w p.h e.1 x y b, e.2)
def dsigS (p : Pp) (A : Orc σ) (e : St × σ) (z : Int × Int) : St × σ := if (!e.1.s z.1 z.2 && nearQ p e.1 z.1 z.2) = true then dtouchS p (drestS p A e z.1 z.2) z.1 z.2 true else e
def dincQ (p : Pp) (q : St) (x y : Int) : St := setQ p.w p.h q x y (q.v x y + if q.v x y < 0 then -(wgt p) else wgt p)
def drefS (p : Pp) (A : Orc σ) (e : St × σ) (z : Int × Int) : St × σ :=
  if (e.1.s z.1 z.2 && !e.1.t z.1 z.2) = true then
    (touchQ p.w p.h (refineQ p.w p.h (if askB p A e (refC p e.1 z.1 z.2) = 1 then dincQ p e.1 z.1 z.2 else e.1) z.1 z.2) z.1 z.2 true, (askE p A e (refC p e.1 z.1 z.2)).2)
  else e
def dclnS (p : Pp) (A : Orc σ) (e : St × σ) (z : Int × Int) : St × σ := if (e.1.s z.1 z.2 || e.1.t z.1 z.2) = true then e else drestS p A e z.1 z.2
/-- The row of a run length's end, behind its two bits. -/
def drowN (p : Pp) (A : Orc σ) (e : St × σ) : Nat := (2 * askB p A e 18 + askB p A (askE p A e 18) 18).toNat
theorem drowN_lt (p : Pp) (A : Orc σ) (e : St × σ) : drowN p A e < 4 := by
  have h1 := askB_in p A e 18
  have h2 := askB_in p A (askE p A e 18) 18
  unfold drowN
  omega
def drunS (p : Pp) (A : Orc σ) (e : St × σ) (x top : Nat) : St × σ := dsignS p A (askE p A (askE p A e 18) 18) (x : Int) ((top + drowN p A e : Nat) : Int)
def dcolS (p : Pp) (A : Orc σ) (e : St × σ) (x top n : Nat) : St × σ :=
  if quietQ p e.1 x top n then
    if askB p A e 17 = 0 then askE p A e 17
    else (colP x (top + (drowN p A (askE p A e 17) + 1)) (n - (drowN p A (askE p A e 17) + 1))).foldl (dclnS p A) (drunS p A (askE p A e 17) x top)
  else (colP x top n).foldl (dclnS p A) e
def dstrS (p : Pp) (A : Orc σ) (e : St × σ) (top n k : Nat) : St × σ := (List.range k).foldl (fun e x => dcolS p A e x top n) e
def dclS (p : Pp) (A : Orc σ) (e : St × σ) (k : Nat) : St × σ := (List.range k).foldl (fun e s => dstrS p A e (4 * s) (min 4 (p.h - 4 * s)) p.w) e
def doffS (p : Pp) (e : St × σ) (l : List (Int × Int)) : St × σ := l.foldl (fun e z => dtouchS p e z.1 z.2 false) e
/-- The check symbols: the state behind them, and whether they are right. -/
def dchkS (p : Pp) (A : Orc σ) (z : (St × σ) × Bool) (b : Int) : (St × σ) × Bool := (askE p A z.1 18, z.2 && decide (askB p A z.1 18 = b))
def dendS (p : Pp) (A : Orc σ) (y : Bool) (e : St × σ) : (St × σ) × Bool := if y then ([1, 0, 1, 0] : List Int).foldl (dchkS p A) (e, true) else (e, true)
def dpassS (p : Pp) (A : Orc σ) (k : Int) (y : Bool) (e : St × σ) : (St × σ) × Bool :=
  if k = 0 then ((scan p.w p.h).foldl (dsigS p A) e, true) else if k = 1 then ((scan p.w p.h).foldl (drefS p A) e, true)
  else dendS p A y (doffS p (dclS p A e ((p.h + 3) / 4)) (scan p.w p.h))
/-- The oracle of a list of symbols: what is left of it, and whether a question was wrong. -/
def lstO : Orc (List Sy × Bool) := fun z c => match z.1 with
  | [] => (0, ([], true))
  | a :: l => if a.1 = c ∧ (a.2 = 0 ∨ a.2 = 1) then (a.2, (l, z.2)) else (0, (a :: l, true))
end
end Go.Proofs.YtbhjapgioaiocaaDoor
set_option maxRecDepth 100000
namespace Go.Proofs.YtbhjapgioaiocaaDoor
open Go.RowKit

section
variable {σ : Type}
def OkS (e : St × σ) : Prop := ∀ x y, okV (e.1.v x y)
theorem setQ_any (w h : Nat) (q : St) (x y v : Int) (hq : ∀ x y, okV (q.v x y)) : ∀ X Y, okV ((setQ w h q x y v).v X Y) := by
  by_cases hv : okV v
  · exact setQ_ok w h q x y v hq hv
  · unfold setQ
    rw [if_neg fun h => hv h.2]
    exact hq
theorem dsign_ok (p : Pp) (A : Orc σ) (e : St × σ) (x y : Int) (h : OkS e) : OkS (dsignS p A e x y) := by
  intro X Y
  show okV ((markQ p.w p.h (setQ p.w p.h e.1 x y (valM p (askB p A e (sgnC p e.1 x y)) (sgnF p e.1 x y))) x y).v X Y)
  rw [markQ_v]
  exact setQ_any _ _ _ _ _ _ h X Y
theorem drest_ok (p : Pp) (A : Orc σ) (e : St × σ) (x y : Int) (h : OkS e) : OkS (drestS p A e x y) := by
  unfold drestS
  split
  · exact dsign_ok p A _ x y h
  · exact h
theorem dtouch_ok (p : Pp) (e : St × σ) (x y : Int) (b : Bool) (h : OkS e) : OkS (dtouchS p e x y b) := by
  intro X Y
  show okV ((touchQ p.w p.h e.1 x y b).v X Y)
  rw [touchQ_v]
  exact h X Y
theorem dsig_ok (p : Pp) (A : Orc σ) (e : St × σ) (z : Int × Int) (h : OkS e) : OkS (dsigS p A e z) := by
  unfold dsigS
  split
  · exact dtouch_ok p _ _ _ _ (drest_ok p A e _ _ h)
  · exact h
theorem dref_ok (p : Pp) (A : Orc σ) (e : St × σ) (z : Int × Int) (h : OkS e) : OkS (drefS p A e z) := by
  unfold drefS
  split
  · intro X Y
    show okV ((touchQ p.w p.h (refineQ p.w p.h _ z.1 z.2) z.1 z.2 true).v X Y)
    rw [touchQ_v, refineQ_v]
    split
    · exact setQ_any _ _ _ _ _ _ h X Y
    · exact h X Y
  · exact h
theorem dcln_ok (p : Pp) (A : Orc σ) (e : St × σ) (z : Int × Int) (h : OkS e) : OkS (dclnS p A e z) := by
  unfold dclnS
  split
  · exact h
  · exact drest_ok p A e _ _ h
theorem foldl_ok {α : Type} (f : St × σ → α → St × σ) (hf : ∀ e z, OkS e → OkS (f e z)) (l : List α) (e : St × σ) (h : OkS e) : OkS (l.foldl f e) := by
  induction l generalizing e with
  | nil => exact h
  | cons a l ih => exact ih _ (hf _ _ h)
theorem dcol_ok (p : Pp) (A : Orc σ) (e : St × σ) (x top n : Nat) (h : OkS e) : OkS (dcolS p A e x top n) := by
  unfold dcolS
  split
  · split
    · exact h
    · exact foldl_ok _ (dcln_ok p A) _ _ (dsign_ok p A _ _ _ h)
  · exact foldl_ok _ (dcln_ok p A) _ _ h
theorem dstr_ok (p : Pp) (A : Orc σ) (e : St × σ) (top n k : Nat) (h : OkS e) : OkS (dstrS p A e top n k) := foldl_ok _ (fun e x he => dcol_ok p A e x top n he) _ _ h
theorem dcl_ok (p : Pp) (A : Orc σ) (e : St × σ) (k : Nat) (h : OkS e) : OkS (dclS p A e k) := foldl_ok _ (fun e _ he => dstr_ok p A e _ _ _ he) _ _ h
theorem doff_ok (p : Pp) (e : St × σ) (l : List (Int × Int)) (h : OkS e) : OkS (doffS p e l) := foldl_ok _ (fun e _ he => dtouch_ok p e _ _ _ he) _ _ h
theorem dpass_ok (p : Pp) (A : Orc σ) (k : Int) (y : Bool) (e : St × σ) (h : OkS e) : OkS (dpassS p A k y e).1 := by
  unfold dpassS
  split
  · exact foldl_ok _ (dsig_ok p A) _ _ h
  split
  · exact foldl_ok _ (dref_ok p A) _ _ h
  · have h2 := doff_ok p _ (scan p.w p.h) (dcl_ok p A e ((p.h + 3) / 4) h)
    unfold dendS
    split
    · exact h2
    · exact h2
end
end Go.Proofs.YtbhjapgioaiocaaDoor
set_option maxRecDepth 100000
namespace Go.Proofs.YtbhjapgioaiocaaDoor
open Go.RowKit

section
variable {σ τ : Type}
/-- Reached by at most so many questions. -/
inductive Rch (A : Orc σ) : Nat → σ → σ → Prop
  | refl (n : Nat) (s : σ) : Rch A n s s
  | step (n : Nat) (s : σ) (c : Int) (s' : σ) : Rch A n (A s c).2 s' → Rch A (n + 1) s s'
section
variable {A : Orc σ} {p : Pp}
theorem Rch.mono {n m : Nat} {s s' : σ} (h : Rch A n s s') (hm : n ≤ m) : Rch A m s s' := by
  induction h generalizing m with
  | refl n s => exact .refl _ _
  | step n s c s' _ ih =>
    obtain ⟨k, rfl⟩ : ∃ k, m = k + 1 := ⟨m - 1, by omega⟩
    exact .step _ _ c _ (ih (by omega))
theorem Rch.trans {n m : Nat} {s s1 s2 : σ} (h : Rch A n s s1) (h' : Rch A m s1 s2) : Rch A (n + m) s s2 := by
  induction h with
  | refl n s => exact h'.mono (by omega)
  | step n s c s' _ ih => rw [show n + 1 + m = n + m + 1 by omega]; exact .step _ _ c _ (ih h')
theorem Rch.inv {P : σ → Prop} (hP : ∀ s c, P s → P (A s c).2) {n : Nat} {s s' : σ} (h : Rch A n s s') (h0 : P s) : P s' := by
  induction h with
  | refl n s => exact h0
  | step n s c s' _ ih => exact ih (hP _ _ h0)
theorem Rch.cnt {f : σ → Nat} (hf : ∀ s c, f (A s c).2 ≤ f s + 1) {n : Nat} {s s' : σ} (h : Rch A n s s') : f s' ≤ f s + n := by
  induction h with
  | refl n s => omega
  | step n s c s' _ ih => have := hf s c; omega
theorem rch_ask (e : St × σ) (c : Int) : Rch A 1 e.2 (askE p A e c).2 := .step _ _ (cxP p c) _ (.refl _ _)
theorem rch_sign (e : St × σ) (x y : Int) : Rch A 1 e.2 (dsignS p A e x y).2 := rch_ask e _
theorem rch_rest1 (e : St × σ) (x y : Int) : Rch A 1 (askE p A e (sigC p e.1 x y)).2 (drestS p A e x y).2 := by
  unfold drestS
  split
  · exact rch_sign _ x y
  · exact .refl _ _
theorem rch_rest (e : St × σ) (x y : Int) : Rch A 2 e.2 (drestS p A e x y).2 := (rch_ask e _).trans (rch_rest1 e x y)
theorem rch_sig (e : St × σ) (z : Int × Int) : Rch A 2 e.2 (dsigS p A e z).2 := by
  unfold dsigS
  split
  · exact rch_rest e _ _
  · exact .refl _ _
theorem rch_ref (e : St × σ) (z : Int × Int) : Rch A 2 e.2 (drefS p A e z).2 := by
  unfold drefS
  split
  · exact (rch_ask e _).mono (by omega)
  · exact .refl _ _
theorem rch_cln (e : St × σ) (z : Int × Int) : Rch A 2 e.2 (dclnS p A e z).2 := by
  unfold dclnS
  split
  · exact .refl _ _
  · exact rch_rest e _ _
theorem rch_fold {α β : Type} (g : β → σ) (f : β → α → β) (n : Nat) (hf : ∀ e z, Rch A n (g e) (g (f e z))) (l : List α) (e : β) : Rch A (n * l.length) (g e) (g (l.foldl f e)) := by
  induction l generalizing e with
  | nil => exact .refl _ _
  | cons a l ih =>
    have := (hf e a).trans (ih (f e a))
    rw [List.foldl_cons, List.length_cons, Nat.mul_succ, Nat.add_comm]
    exact this
theorem rch_run (e : St × σ) (x top : Nat) : Rch A 3 e.2 (drunS p A e x top).2 := ((rch_ask e 18).trans (rch_ask (askE p A e 18) 18)).trans (rch_sign _ _ _)
/-- What a quiet column does behind its first question. -/
def dtailS (p : Pp) (A : Orc σ) (e : St × σ) (x top n : Nat) : St × σ := (colP x (top + (drowN p A e + 1)) (n - (drowN p A e + 1))).foldl (dclnS p A) (drunS p A e x top)
theorem dcol_is (p : Pp) (A : Orc σ) (e : St × σ) (x top n : Nat) : dcolS p A e x top n = if quietQ p e.1 x top n then (if askB p A e 17 = 0 then askE p A e 17 else dtailS p A (askE p A e 17) x top n) else (colP x top n).foldl (dclnS p A) e := rfl
theorem rch_tail (e : St × σ) (x top n : Nat) (hn : n ≤ 4) : Rch A 11 e.2 (dtailS p A e x top n).2 := by
  have h := (rch_run (p := p) (A := A) e x top).trans (rch_fold (fun e : St × σ => e.2) (dclnS p A) 2 (rch_cln (p := p)) (colP x (top + (drowN p A e + 1)) (n - (drowN p A e + 1))) (drunS p A e x top))
  refine h.mono ?_
  rw [colP_len]
  omega
theorem rch_col (e : St × σ) (x top n : Nat) (hn : n ≤ 4) : Rch A 12 e.2 (dcolS p A e x top n).2 := by
  rw [dcol_is]
  split
  · split
    · exact (rch_ask e _).mono (by omega)
    · exact (rch_ask e 17).trans (rch_tail (askE p A e 17) x top n hn)
  · have h := rch_fold (fun e : St × σ => e.2) (dclnS p A) 2 (rch_cln (p := p)) (colP x top n) e
    refine h.mono ?_
    rw [colP_len]
    omega
theorem rch_str (e : St × σ) (top n k : Nat) (hn : n ≤ 4) : Rch A (12 * k) e.2 (dstrS p A e top n k).2 := by
  have := rch_fold (fun e : St × σ => e.2) (fun e x => dcolS p A e x top n) 12 (fun e x => rch_col e x top n hn) (List.range k) e
  rwa [List.length_range] at this
theorem rch_cl (e : St × σ) (k : Nat) : Rch A (12 * p.w * k) e.2 (dclS p A e k).2 := by
  have := rch_fold (fun e : St × σ => e.2) (fun e s => dstrS p A e (4 * s) (min 4 (p.h - 4 * s)) p.w) (12 * p.w) (fun e s => rch_str e _ _ _ (by omega)) (List.range k) e
  rwa [List.length_range] at this
theorem off_s (e : St × σ) (l : List (Int × Int)) : (doffS p e l).2 = e.2 := by
  unfold doffS
  induction l generalizing e with
  | nil => rfl
  | cons a l ih => rw [List.foldl_cons, ih]; rfl
theorem rch_end (y : Bool) (e : St × σ) : Rch A 4 e.2 (dendS p A y e).1.2 := by
  unfold dendS
  split
  · exact rch_fold (fun z : (St × σ) × Bool => z.1.2) (dchkS p A) 1 (fun z b => rch_ask z.1 18) [1, 0, 1, 0] (e, true)
  · exact .refl _ _
theorem rch_pass (k : Int) (y : Bool) (e : St × σ) (hw : p.w ≤ 64) (hh : p.h ≤ 64) : Rch A 20000 e.2 (dpassS p A k y e).1.2 := by
  have hs := scan_l p.w p.h hw hh
  unfold dpassS
  split
  · exact (rch_fold (fun e : St × σ => e.2) (dsigS p A) 2 (rch_sig (p := p)) (scan p.w p.h) e).mono (by omega)
  split
  · exact (rch_fold (fun e : St × σ => e.2) (drefS p A) 2 (rch_ref (p := p)) (scan p.w p.h) e).mono (by omega)
  · have h1 := rch_cl (p := p) (A := A) e ((p.h + 3) / 4)
    have h2 : 12 * p.w * ((p.h + 3) / 4) ≤ 12 * 64 * 16 := Nat.mul_le_mul (Nat.mul_le_mul_left _ hw) (by omega)
    have h3 := rch_end (p := p) (A := A) y (doffS p (dclS p A e ((p.h + 3) / 4)) (scan p.w p.h))
    rw [off_s] at h3
    exact (h1.trans h3).mono (by omega)
end
/-- Two oracles that answer alike, until something is wrong. -/
structure Sm (A : Orc σ) (A' : Orc τ) (G N : σ → τ → Prop) : Prop where
  st : ∀ s t c, G s t → (bitA (A s c).1 = bitA (A' t c).1 ∧ G (A s c).2 (A' t c).2) ∨ N (A s c).2 (A' t c).2
  nl : ∀ s t c, N s t → N (A s c).2 t
  nr : ∀ s t c, N s t → N s (A' t c).2
def RR (G N : σ → τ → Prop) (e : St × σ) (f : St × τ) : Prop := (e.1 = f.1 ∧ G e.2 f.2) ∨ N e.2 f.2
def RB (G N : σ → τ → Prop) (e : (St × σ) × Bool) (f : (St × τ) × Bool) : Prop := (e.1.1 = f.1.1 ∧ G e.1.2 f.1.2 ∧ e.2 = f.2) ∨ N e.1.2 f.1.2
section
variable {A : Orc σ} {A' : Orc τ} {G N : σ → τ → Prop} {p : Pp}
theorem Sm.reach (H : Sm A A' G N) {s s' : σ} {t t' : τ} {n m : Nat} (h : N s t) (h1 : Rch A n s s') (h2 : Rch A' m t t') : N s' t' :=
  h2.inv (P := fun t => N s' t) (fun t c h => H.nr s' t c h) (h1.inv (P := fun s => N s t) (fun s c h => H.nl s t c h) h)
theorem Sm.ask (H : Sm A A' G N) {q : St} {s : σ} {t : τ} (h : G s t) (c : Int) : (askB p A (q, s) c = askB p A' (q, t) c ∧ G (askE p A (q, s) c).2 (askE p A' (q, t) c).2) ∨ N (askE p A (q, s) c).2 (askE p A' (q, t) c).2 := H.st s t (cxP p c) h
theorem Sm.sign (H : Sm A A' G N) {e : St × σ} {f : St × τ} (h : RR G N e f) (x y : Int) : RR G N (dsignS p A e x y) (dsignS p A' f x y) := by
  rcases h with ⟨h1, h2⟩ | h
  · obtain ⟨q, s⟩ := e
    obtain ⟨q', t⟩ := f
    replace h1 : q = q' := h1
    subst h1
    rcases H.ask (p := p) (q := q) h2 (sgnC p q x y) with ⟨hb, hg⟩ | hn
    · refine .inl ⟨?_, hg⟩
      show markQ _ _ (setQ _ _ _ _ _ (valM p (askB p A (q, s) (sgnC p q x y)) _)) _ _ = markQ _ _ (setQ _ _ _ _ _ (valM p (askB p A' (q, t) (sgnC p q x y)) _)) _ _
      rw [hb]
    · exact .inr hn
  · exact .inr (H.reach h (rch_sign e x y) (rch_sign f x y))
theorem Sm.rest (H : Sm A A' G N) {e : St × σ} {f : St × τ} (h : RR G N e f) (x y : Int) : RR G N (drestS p A e x y) (drestS p A' f x y) := by
  rcases h with ⟨h1, h2⟩ | h
  · obtain ⟨q, s⟩ := e
    obtain ⟨q', t⟩ := f
    replace h1 : q = q' := h1
    subst h1
    rcases H.ask (p := p) (q := q) h2 (sigC p q x y) with ⟨hb, hg⟩ | hn
    · have hr : RR G N (askE p A (q, s) (sigC p q x y)) (askE p A' (q, t) (sigC p q x y)) := .inl ⟨rfl, hg⟩
      show RR G N (if askB p A (q, s) (sigC p q x y) = 1 then _ else _) (if askB p A' (q, t) (sigC p q x y) = 1 then _ else _)
      rw [hb]
      split
      · exact H.sign hr x y
      · exact hr
    · exact .inr (H.reach hn (rch_rest1 (q, s) x y) (rch_rest1 (q, t) x y))
  · exact .inr (H.reach h (rch_rest e x y) (rch_rest f x y))
theorem Sm.sig (H : Sm A A' G N) {e : St × σ} {f : St × τ} (h : RR G N e f) (z : Int × Int) : RR G N (dsigS p A e z) (dsigS p A' f z) := by
  rcases h with ⟨h1, h2⟩ | h
  · have hr := H.rest (p := p) (.inl ⟨h1, h2⟩) z.1 z.2
    unfold dsigS
    rw [h1]
    split
    · rcases hr with ⟨k1, k2⟩ | k
      · exact .inl ⟨by show touchQ _ _ _ _ _ _ = touchQ _ _ _ _ _ _; rw [k1], k2⟩
      · exact .inr k
    · exact .inl ⟨h1, h2⟩
  · exact .inr (H.reach h (rch_sig e z) (rch_sig f z))
theorem Sm.ref (H : Sm A A' G N) {e : St × σ} {f : St × τ} (h : RR G N e f) (z : Int × Int) : RR G N (drefS p A e z) (drefS p A' f z) := by
  rcases h with ⟨h1, h2⟩ | h
  · obtain ⟨q, s⟩ := e
    obtain ⟨q', t⟩ := f
    replace h1 : q = q' := h1
    subst h1
    unfold drefS
    split
    · rcases H.ask (p := p) (q := q) h2 (refC p q z.1 z.2) with ⟨hb, hg⟩ | hn
      · refine .inl ⟨?_, hg⟩
        show touchQ _ _ (refineQ _ _ (if askB p A (q, s) (refC p q z.1 z.2) = 1 then _ else _) _ _) _ _ _ = touchQ _ _ (refineQ _ _ (if askB p A' (q, t) (refC p q z.1 z.2) = 1 then _ else _) _ _) _ _ _
        rw [hb]
      · exact .inr hn
    · exact .inl ⟨rfl, h2⟩
  · exact .inr (H.reach h (rch_ref e z) (rch_ref f z))
theorem Sm.cln (H : Sm A A' G N) {e : St × σ} {f : St × τ} (h : RR G N e f) (z : Int × Int) : RR G N (dclnS p A e z) (dclnS p A' f z) := by
  rcases h with ⟨h1, h2⟩ | h
  · have hr := H.rest (p := p) (.inl ⟨h1, h2⟩) z.1 z.2
    unfold dclnS
    rw [h1]
    split
    · exact .inl ⟨h1, h2⟩
    · exact hr
  · exact .inr (H.reach h (rch_cln e z) (rch_cln f z))
theorem rr_fold {α : Type} (f : St × σ → α → St × σ) (f' : St × τ → α → St × τ) (h : ∀ e e' z, RR G N e e' → RR G N (f e z) (f' e' z)) (l : List α) : ∀ e e', RR G N e e' → RR G N (l.foldl f e) (l.foldl f' e') := by
  induction l with
  | nil => exact fun e e' h => h
  | cons a l ih => exact fun e e' k => ih _ _ (h e e' a k)
theorem Sm.tail (H : Sm A A' G N) {q : St} {s : σ} {t : τ} (h : G s t) (x top n : Nat) (hn4 : n ≤ 4) : RR G N (dtailS p A (q, s) x top n) (dtailS p A' (q, t) x top n) := by
  rcases H.ask (p := p) (q := q) h 18 with ⟨b1, g1⟩ | hn
  · rcases H.ask (p := p) (q := q) g1 18 with ⟨b2, g2⟩ | hn
    · have hd : drowN p A (q, s) = drowN p A' (q, t) := by
        unfold drowN
        have e1 : askB p A (askE p A (q, s) 18) 18 = askB p A' (askE p A' (q, t) 18) 18 := b2
        rw [b1, e1]
      have h3 : RR G N (askE p A (askE p A (q, s) 18) 18) (askE p A' (askE p A' (q, t) 18) 18) := .inl ⟨rfl, g2⟩
      unfold dtailS drunS
      rw [hd]
      exact rr_fold _ _ (fun e e' z h => H.cln h z) _ _ _ (H.sign h3 _ _)
    · refine .inr (H.reach hn (n := 9) (m := 9) ?_ ?_)
      · refine ((rch_sign (A := A) (p := p) (askE p A (askE p A (q, s) 18) 18) _ _).trans (rch_fold (fun e : St × σ => e.2) (dclnS p A) 2 (rch_cln (p := p)) _ _)).mono ?_
        rw [colP_len]; omega
      · refine ((rch_sign (A := A') (p := p) (askE p A' (askE p A' (q, t) 18) 18) _ _).trans (rch_fold (fun e : St × τ => e.2) (dclnS p A') 2 (rch_cln (p := p)) _ _)).mono ?_
        rw [colP_len]; omega
  · refine .inr (H.reach hn (n := 10) (m := 10) ?_ ?_)
    · refine (((rch_ask (A := A) (p := p) (askE p A (q, s) 18) 18).trans (rch_sign (A := A) (p := p) (askE p A (askE p A (q, s) 18) 18) _ _)).trans (rch_fold (fun e : St × σ => e.2) (dclnS p A) 2 (rch_cln (p := p)) _ _)).mono ?_
      rw [colP_len]; omega
    · refine (((rch_ask (A := A') (p := p) (askE p A' (q, t) 18) 18).trans (rch_sign (A := A') (p := p) (askE p A' (askE p A' (q, t) 18) 18) _ _)).trans (rch_fold (fun e : St × τ => e.2) (dclnS p A') 2 (rch_cln (p := p)) _ _)).mono ?_
      rw [colP_len]; omega
theorem Sm.col (H : Sm A A' G N) {e : St × σ} {f : St × τ} (h : RR G N e f) (x top n : Nat) (hn4 : n ≤ 4) : RR G N (dcolS p A e x top n) (dcolS p A' f x top n) := by
  rcases h with ⟨h1, h2⟩ | h
  · obtain ⟨q, s⟩ := e
    obtain ⟨q', t⟩ := f
    replace h1 : q = q' := h1
    subst h1
    rw [dcol_is, dcol_is]
    show RR G N (if quietQ p q x top n then _ else _) (if quietQ p q x top n then _ else _)
    split
    · rcases H.ask (p := p) (q := q) h2 17 with ⟨hb, hg⟩ | hn
      · rw [hb]
        split
        · exact .inl ⟨rfl, hg⟩
        · exact H.tail hg x top n hn4
      · refine .inr (H.reach hn (n := 11) (m := 11) ?_ ?_)
        · split
          · exact .refl _ _
          · exact rch_tail (askE p A (q, s) 17) x top n hn4
        · split
          · exact .refl _ _
          · exact rch_tail (askE p A' (q, t) 17) x top n hn4
    · exact rr_fold _ _ (fun e e' z h => H.cln h z) _ _ _ (.inl ⟨rfl, h2⟩)
  · exact .inr (H.reach h (rch_col e x top n hn4) (rch_col f x top n hn4))
theorem Sm.cl (H : Sm A A' G N) {e : St × σ} {f : St × τ} (h : RR G N e f) (k : Nat) : RR G N (dclS p A e k) (dclS p A' f k) :=
  rr_fold (fun e s => dstrS p A e (4 * s) (min 4 (p.h - 4 * s)) p.w) (fun e s => dstrS p A' e (4 * s) (min 4 (p.h - 4 * s)) p.w) (fun e e' s h => rr_fold (fun e x => dcolS p A e x (4 * s) (min 4 (p.h - 4 * s))) (fun e x => dcolS p A' e x (4 * s) (min 4 (p.h - 4 * s))) (fun e e' x h => H.col h x _ _ (by omega)) (List.range p.w) e e' h) (List.range k) e f h
theorem rr_off {e : St × σ} {f : St × τ} (h : RR G N e f) (l : List (Int × Int)) : RR G N (doffS p e l) (doffS p f l) := by
  refine rr_fold (fun (e : St × σ) (z : Int × Int) => dtouchS p e z.1 z.2 false) (fun (e : St × τ) (z : Int × Int) => dtouchS p e z.1 z.2 false) (fun e e' z h => ?_) l e f h
  rcases h with ⟨k1, k2⟩ | k
  · exact .inl ⟨by show touchQ _ _ _ _ _ _ = touchQ _ _ _ _ _ _; rw [k1], k2⟩
  · exact .inr k
theorem Sm.chk (H : Sm A A' G N) {z : (St × σ) × Bool} {z' : (St × τ) × Bool} (h : RB G N z z') (b : Int) : RB G N (dchkS p A z b) (dchkS p A' z' b) := by
  rcases h with ⟨h1, h2, h3⟩ | h
  · obtain ⟨⟨q, s⟩, y⟩ := z
    obtain ⟨⟨q', t⟩, y'⟩ := z'
    replace h1 : q = q' := h1
    replace h3 : y = y' := h3
    subst h1
    subst h3
    rcases H.ask (p := p) (q := q) h2 18 with ⟨hb, hg⟩ | hn
    · refine .inl ⟨rfl, hg, ?_⟩
      show (y && decide (askB p A (q, s) 18 = b)) = (y && decide (askB p A' (q, t) 18 = b))
      rw [hb]
    · exact .inr hn
  · exact .inr (H.reach h (rch_ask z.1 18) (rch_ask z'.1 18))
theorem Sm.ends (H : Sm A A' G N) {e : St × σ} {f : St × τ} (h : RR G N e f) (y : Bool) : RB G N (dendS p A y e) (dendS p A' y f) := by
  have h0 : RB G N (e, true) (f, true) := by
    rcases h with ⟨k1, k2⟩ | k
    · exact .inl ⟨k1, k2, rfl⟩
    · exact .inr k
  unfold dendS
  split
  · exact H.chk (H.chk (H.chk (H.chk h0 1) 0) 1) 0
  · exact h0
theorem Sm.pass (H : Sm A A' G N) {e : St × σ} {f : St × τ} (h : RR G N e f) (k : Int) (y : Bool) : RB G N (dpassS p A k y e) (dpassS p A' k y f) := by
  have up : ∀ {e : St × σ} {f : St × τ}, RR G N e f → RB G N (e, true) (f, true) := fun h => by
    rcases h with ⟨k1, k2⟩ | k
    · exact .inl ⟨k1, k2, rfl⟩
    · exact .inr k
  unfold dpassS
  split
  · exact up (rr_fold _ _ (fun e e' z h => H.sig h z) _ _ _ h)
  split
  · exact up (rr_fold _ _ (fun e e' z h => H.ref h z) _ _ _ h)
  · exact H.ends (rr_off (H.cl h _) _) y
end
end
end Go.Proofs.YtbhjapgioaiocaaDoor
