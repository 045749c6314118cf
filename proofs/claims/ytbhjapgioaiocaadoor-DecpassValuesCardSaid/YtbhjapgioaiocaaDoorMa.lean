/-
  Layer 15: the passes of the encoder in mathematics.
-/
import Derived.Test.YtbhjapgioaiocaaDoorPg
import Derived.Test.YtbhjapgioaiocaaDoorPn
import Derived.Test.YtbhjapgioaiocaaDoorCb
set_option maxRecDepth 100000
namespace Go.Proofs.YtbhjapgioaiocaaDoor
open Go.RowKit

abbrev Sy := Int × Int
/-- What a pass is performed with: width, height, the weight's exponent, the orientation, causal, raw. -/
structure Pp where
  w : Nat
  h : Nat
  s : Nat
  o : Int
  c : Bool
  raw : Bool
def cxP (p : Pp) (c : Int) : Int := if p.raw then -1 else c
def bitM (v : Int) (s : Nat) : Int := ((v.natAbs / 2 ^ s % 2 : Nat) : Int)
theorem bitM_in (v : Int) (s : Nat) : bitM v s = 0 ∨ bitM v s = 1 := by unfold bitM; omega
def nearQ (p : Pp) (q : St) (x y : Int) : Bool := decide (0 < nbH q x y + nbV q x y p.c + nbD q x y p.c)
def sgnC (p : Pp) (q : St) (x y : Int) : Int := Cx.sgC (Cx.l1 (sgH q x y)) (Cx.l1 (sgV q x y p.c))
def sgnF (p : Pp) (q : St) (x y : Int) : Int := if p.raw then 0 else Cx.sgF (Cx.l1 (sgH q x y)) (Cx.l1 (sgV q x y p.c))
theorem sgF_in (a b : Int) : Cx.sgF a b = 0 ∨ Cx.sgF a b = 1 := by unfold Cx.sgF; split <;> simp
theorem sgnF_in (p : Pp) (q : St) (x y : Int) : sgnF p q x y = 0 ∨ sgnF p q x y = 1 := by
  unfold sgnF
  split
  · simp
  · exact sgF_in _ _
def negM (v : Int) : Int := if v < 0 then 1 else 0
theorem negM_in (v : Int) : negM v = 0 ∨ negM v = 1 := by unfold negM; split <;> simp
def xorM (a b : Int) : Int := if a = b then 0 else 1
theorem xorM_in (a b : Int) : xorM a b = 0 ∨ xorM a b = 1 := by unfold xorM; split <;> simp
def sigC (p : Pp) (q : St) (x y : Int) : Int := Cx.sigM p.o (nbH q x y) (nbV q x y p.c) (nbD q x y p.c)
abbrev Es := St × List Sy
def putS (p : Pp) (e : Es) (c b : Int) : Es := (e.1, e.2 ++ [(cxP p c, b)])
def signS (p : Pp) (e : Es) (x y : Int) : Es := (markQ p.w p.h e.1 x y, e.2 ++ [(cxP p (sgnC p e.1 x y), xorM (negM (e.1.v x y)) (sgnF p e.1 x y))])
def codeS (p : Pp) (e : Es) (x y : Int) : Es := if bitM (e.1.v x y) p.s = 1 then signS p (putS p e (sigC p e.1 x y) (bitM (e.1.v x y) p.s)) x y else putS p e (sigC p e.1 x y) (bitM (e.1.v x y) p.s)
def touchS (p : Pp) (e : Es) (x y : Int) (b : Bool) : Es := (touchQ p.w p.h e.1 x y b, e.2)
def refnS (p : Pp) (e : Es) (x y : Int) : Es := (refineQ p.w p.h e.1 x y, e.2)
def sigS (p : Pp) (e : Es) (z : Int × Int) : Es := if (!e.1.s z.1 z.2 && nearQ p e.1 z.1 z.2) = true then touchS p (codeS p e z.1 z.2) z.1 z.2 true else e
def refC (p : Pp) (q : St) (x y : Int) : Int := Cx.refM (!q.r x y) (nearQ p q x y)
def refS (p : Pp) (e : Es) (z : Int × Int) : Es := if (e.1.s z.1 z.2 && !e.1.t z.1 z.2) = true then touchS p (refnS p (putS p e (refC p e.1 z.1 z.2) (bitM (e.1.v z.1 z.2) p.s)) z.1 z.2) z.1 z.2 true else e
def clnS (p : Pp) (e : Es) (z : Int × Int) : Es := if (e.1.s z.1 z.2 || e.1.t z.1 z.2) = true then e else codeS p e z.1 z.2
def busyQ (p : Pp) (q : St) (x y : Int) : Bool := q.s x y || q.t x y || nearQ p q x y
def quietQ (p : Pp) (q : St) (x top n : Nat) : Bool := (colP x top n).all (fun z => !busyQ p q z.1 z.2) && decide (n = 4)
def zer (b : Nat → Bool) : Nat := if b 0 then 0 else if b 1 then 1 else if b 2 then 2 else if b 3 then 3 else 4
theorem zer_le (b : Nat → Bool) : zer b ≤ 4 := by unfold zer; repeat' split
                                                  all_goals omega
theorem zer_is (b : Nat → Bool) (k : Nat) (hk : k ≤ 4) (h0 : ∀ j, j < k → b j = false) (h1 : k = 4 ∨ b k = true) : zer b = k := by
  unfold zer
  match k, hk with
  | 0, _ => have := h1.resolve_left (by omega); simp [this]
  | 1, _ => have := h1.resolve_left (by omega); simp [this, h0 0 (by omega)]
  | 2, _ => have := h1.resolve_left (by omega); simp [this, h0 0 (by omega), h0 1 (by omega)]
  | 3, _ => have := h1.resolve_left (by omega); simp [this, h0 0 (by omega), h0 1 (by omega), h0 2 (by omega)]
  | 4, _ => simp [h0 0 (by omega), h0 1 (by omega), h0 2 (by omega), h0 3 (by omega)]
def oneQ (p : Pp) (q : St) (x top : Nat) (j : Nat) : Bool := bitM (q.v (x : Int) ((top + j : Nat) : Int)) p.s == 1
def zerQ (p : Pp) (q : St) (x top : Nat) : Nat := zer (oneQ p q x top)
def runS (p : Pp) (e : Es) (x top : Nat) : Es := if zerQ p e.1 x top = 4 then putS p e 17 0 else
  signS p (putS p (putS p (putS p e 17 1) 18 ((zerQ p e.1 x top / 2 : Nat) : Int)) 18 ((zerQ p e.1 x top % 2 : Nat) : Int)) (x : Int) ((top + zerQ p e.1 x top : Nat) : Int)
def runN (p : Pp) (q : St) (x top : Nat) : Nat := if zerQ p q x top = 4 then 4 else zerQ p q x top + 1
def colS (p : Pp) (e : Es) (x top n : Nat) : Es := if quietQ p e.1 x top n then (colP x (top + runN p e.1 x top) (n - runN p e.1 x top)).foldl (clnS p) (runS p e x top) else (colP x top n).foldl (clnS p) e
def strS (p : Pp) (e : Es) (top n k : Nat) : Es := (List.range k).foldl (fun e x => colS p e x top n) e
def clS (p : Pp) (e : Es) (k : Nat) : Es := (List.range k).foldl (fun e s => strS p e (4 * s) (min 4 (p.h - 4 * s)) p.w) e
def offS (p : Pp) (e : Es) (l : List (Int × Int)) : Es := l.foldl (fun e z => touchS p e z.1 z.2 false) e
def chkS (p : Pp) (e : Es) : Es := putS p (putS p (putS p (putS p e 18 1) 18 0) 18 1) 18 0
def endS (p : Pp) (y : Bool) (e : Es) : Es := if y then chkS p e else e
def cleanS (p : Pp) (y : Bool) (e : Es) : Es := endS p y (offS p (clS p e ((p.h + 3) / 4)) (scan p.w p.h))
def passS (p : Pp) (k : Int) (y : Bool) (e : Es) : Es := if k = 0 then (scan p.w p.h).foldl (sigS p) e else if k = 1 then (scan p.w p.h).foldl (refS p) e else cleanS p y e
theorem foldl_take {α β : Type} (f : β → α → β) (e : β) (l : List α) (k : Nat) (hk : k < l.length) : (l.take (k + 1)).foldl f e = f ((l.take k).foldl f e) l[k] := by
  rw [List.take_add_one, List.foldl_append, List.getElem?_eq_getElem hk]
  rfl
theorem foldl_rng {β : Type} (f : β → Nat → β) (e : β) (k : Nat) : (List.range (k + 1)).foldl f e = f ((List.range k).foldl f e) k := by rw [List.range_succ, List.foldl_append]; rfl
/-- How many symbols each step may add. -/
theorem codeS_len (p : Pp) (e : Es) (x y : Int) : (codeS p e x y).2.length ≤ e.2.length + 2 := by unfold codeS signS putS; split <;> simp
theorem sigS_len (p : Pp) (e : Es) (z : Int × Int) : (sigS p e z).2.length ≤ e.2.length + 2 := by
  unfold sigS touchS
  split
  · exact codeS_len _ _ _ _
  · omega
theorem refS_len (p : Pp) (e : Es) (z : Int × Int) : (refS p e z).2.length ≤ e.2.length + 2 := by
  unfold refS touchS refnS putS
  split <;> simp
theorem clnS_len (p : Pp) (e : Es) (z : Int × Int) : (clnS p e z).2.length ≤ e.2.length + 2 := by
  unfold clnS
  split
  · omega
  · exact codeS_len _ _ _ _
theorem foldl_len {α : Type} (f : Es → α → Es) (n : Nat) (hf : ∀ e z, (f e z).2.length ≤ e.2.length + n) (l : List α) (e : Es) : (l.foldl f e).2.length ≤ e.2.length + n * l.length := by
  induction l generalizing e with
  | nil => simp
  | cons a l ih =>
    have := ih (f e a)
    have := hf e a
    rw [List.foldl_cons, List.length_cons, Nat.mul_succ]
    omega
theorem runS_len (p : Pp) (e : Es) (x top : Nat) : (runS p e x top).2.length ≤ e.2.length + 4 := by unfold runS signS putS; split <;> simp
theorem colS_len (p : Pp) (e : Es) (x top n : Nat) (hn : n ≤ 4) : (colS p e x top n).2.length ≤ e.2.length + 12 := by
  unfold colS
  split
  · have := foldl_len (clnS p) 2 (clnS_len p) (colP x (top + runN p e.1 x top) (n - runN p e.1 x top)) (runS p e x top)
    have := runS_len p e x top
    rw [colP_len] at *
    omega
  · have := foldl_len (clnS p) 2 (clnS_len p) (colP x top n) e
    rw [colP_len] at *
    omega
theorem strS_len (p : Pp) (e : Es) (top n k : Nat) (hn : n ≤ 4) : (strS p e top n k).2.length ≤ e.2.length + 12 * k := by
  have := foldl_len (fun e x => colS p e x top n) 12 (fun e x => colS_len p e x top n hn) (List.range k) e
  rwa [List.length_range] at this
theorem clS_len (p : Pp) (e : Es) (k : Nat) : (clS p e k).2.length ≤ e.2.length + 12 * p.w * k := by
  have := foldl_len (fun e s => strS p e (4 * s) (min 4 (p.h - 4 * s)) p.w) (12 * p.w) (fun e s => strS_len p e _ _ _ (by omega)) (List.range k) e
  rwa [List.length_range] at this
theorem offS_len (p : Pp) (e : Es) (l : List (Int × Int)) : (offS p e l).2.length = e.2.length := by
  unfold offS
  induction l generalizing e with
  | nil => rfl
  | cons a l ih => rw [List.foldl_cons, ih]; rfl
end Go.Proofs.YtbhjapgioaiocaaDoor
