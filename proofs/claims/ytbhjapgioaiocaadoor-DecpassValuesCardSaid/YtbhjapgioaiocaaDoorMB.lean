/-
  Layer 16: the decoder beside the encoder: it reads the encoder's symbols, and its values are the encoder's without their missing planes.
  Layer 16: the decoder beside the encoder in a cleanup pass; whole passes.
  Layer 16: the decoder beside the encoder, pass by pass.
  Layer 16: the error of a pass's symbols; a decoder that is given other symbols; the reference's source.
-/
import Derived.Test.YtbhjapgioaiocaaDoorMA
import Derived.Test.YtbhjapgioaiocaaDoorMc
import Derived.Test.YtbhjapgioaiocaaDoorMe
set_option maxRecDepth 100000
namespace Go.Proofs.YtbhjapgioaiocaaDoor
open Go.RowKit

/-- The symbols only grow. -/
def Gw (e e' : Es) : Prop := e.2 <+: e'.2
section
variable {p : Pp}
theorem Gw.refl (e : Es) : Gw e e := List.prefix_refl _
theorem Gw.trans {e e1 e2 : Es} (h : Gw e e1) (h' : Gw e1 e2) : Gw e e2 := List.IsPrefix.trans h h'
theorem gw_put (e : Es) (c b : Int) : Gw e (putS p e c b) := List.prefix_append _ _
theorem gw_sign (e : Es) (x y : Int) : Gw e (signS p e x y) := List.prefix_append _ _
theorem gw_code (e : Es) (x y : Int) : Gw e (codeS p e x y) := by
  unfold codeS
  split
  · exact (gw_put e _ _).trans (gw_sign _ x y)
  · exact gw_put e _ _
theorem gw_sig (e : Es) (z : Int × Int) : Gw e (sigS p e z) := by
  unfold sigS
  split
  · exact gw_code e _ _
  · exact Gw.refl _
theorem gw_ref (e : Es) (z : Int × Int) : Gw e (refS p e z) := by
  unfold refS
  split
  · exact gw_put e _ _
  · exact Gw.refl _
theorem gw_cln (e : Es) (z : Int × Int) : Gw e (clnS p e z) := by
  unfold clnS
  split
  · exact Gw.refl _
  · exact gw_code e _ _
theorem gw_fold {α : Type} (f : Es → α → Es) (hf : ∀ e z, Gw e (f e z)) (l : List α) : ∀ e : Es, Gw e (l.foldl f e) := by
  induction l with
  | nil => exact fun e => Gw.refl _
  | cons a l ih => exact fun e => (hf e a).trans (ih _)
theorem gw_run (e : Es) (x top : Nat) : Gw e (runS p e x top) := by
  unfold runS
  split
  · exact gw_put e _ _
  · exact (((gw_put e _ _).trans (gw_put _ _ _)).trans (gw_put _ _ _)).trans (gw_sign _ _ _)
theorem gw_col (e : Es) (x top n : Nat) : Gw e (colS p e x top n) := by
  unfold colS
  split
  · exact (gw_run e x top).trans (gw_fold _ gw_cln _ _)
  · exact gw_fold _ gw_cln _ _
theorem gw_str (e : Es) (top n k : Nat) : Gw e (strS p e top n k) := gw_fold (fun e x => colS p e x top n) (fun e x => gw_col e x top n) _ _
theorem gw_off (e : Es) (l : List (Int × Int)) : Gw e (offS p e l) := by unfold Gw; rw [off_l]; exact List.prefix_refl _
end
/-- Equal flags; the decoder's values are the encoder's without so many planes. -/
structure DL (V : Int → Int → Int) (m : Int → Int → Nat) (q q' : St) : Prop where
  v0 : q.v = V
  s : q'.s = q.s
  t : q'.t = q.t
  r : q'.r = q.r
  v : ∀ x y, q'.v x y = keptM (V x y) (m x y)
  g : ∀ x y, q.s x y = decide (2 ^ m x y ≤ (V x y).natAbs)
/-- The planes that miss: those below s of what is touched or done. -/
def Mm (s : Nat) (t D : Int → Int → Bool) : Int → Int → Nat := fun x y => if t x y || D x y then s else s + 1
def noD : Int → Int → Bool := fun _ _ => false
section
variable {V : Int → Int → Int} {m m' : Int → Int → Nat} {q q' : St} {p : Pp}
theorem kept0 (k : Nat) : keptM 0 k = 0 := by unfold keptM; simp
theorem DL.congr (h : DL V m q q') (hm : ∀ x y, V x y ≠ 0 → m x y = m' x y) : DL V m' q q' := by
  refine ⟨h.v0, h.s, h.t, h.r, fun x y => ?_, fun x y => ?_⟩
  · by_cases hv : V x y = 0
    · rw [h.v, hv, kept0, kept0]
    · rw [h.v, hm x y hv]
  · by_cases hv : V x y = 0
    · have h1 := h.g x y
      rw [hv] at h1 ⊢
      rw [h1]
      have a := Nat.two_pow_pos (m x y)
      have b := Nat.two_pow_pos (m' x y)
      rw [decide_eq_false (by simp), decide_eq_false (by simp)]
    · rw [h.g, hm x y hv]
theorem DL.ge (h : DL V m q q') {x y : Int} (hs : q.s x y = true) : 2 ^ m x y ≤ (V x y).natAbs := by
  rw [h.g] at hs
  exact of_decide_eq_true hs
theorem DL.lt (h : DL V m q q') {x y : Int} (hs : q.s x y = false) : (V x y).natAbs < 2 ^ m x y := by
  rw [h.g] at hs
  have := of_decide_eq_false hs
  omega
theorem DL.cn (h : DL V m q q') (x y : Int) : cn q' x y = cn q x y := by unfold Go.Proofs.YtbhjapgioaiocaaDoor.cn; rw [h.s]
theorem DL.sg (h : DL V m q q') (x y : Int) : sg q' x y = sg q x y := by
  unfold Go.Proofs.YtbhjapgioaiocaaDoor.sg
  rw [h.s, h.v, h.v0]
  by_cases hs : q.s x y = true
  · rw [if_pos hs, if_pos hs]
    have := kept_neg (V x y) (m x y) (h.ge hs)
    simp only [this]
  · rw [if_neg hs, if_neg hs]
theorem DL.nH (h : DL V m q q') (x y : Int) : nbH q' x y = nbH q x y := by unfold nbH; rw [h.cn, h.cn]
theorem DL.nV (h : DL V m q q') (x y : Int) (c : Bool) : nbV q' x y c = nbV q x y c := by unfold nbV; rw [h.cn, h.cn]
theorem DL.nD (h : DL V m q q') (x y : Int) (c : Bool) : nbD q' x y c = nbD q x y c := by unfold nbD; rw [h.cn, h.cn, h.cn, h.cn]
theorem DL.near (h : DL V m q q') (x y : Int) : nearQ p q' x y = nearQ p q x y := by unfold nearQ; rw [h.nH, h.nV, h.nD]
theorem DL.sC (h : DL V m q q') (x y : Int) : sgnC p q' x y = sgnC p q x y := by unfold sgnC sgH sgV; rw [h.sg, h.sg, h.sg, h.sg]
theorem DL.sF (h : DL V m q q') (x y : Int) : sgnF p q' x y = sgnF p q x y := by unfold sgnF sgH sgV; rw [h.sg, h.sg, h.sg, h.sg]
theorem DL.zC (h : DL V m q q') (x y : Int) : sigC p q' x y = sigC p q x y := by unfold sigC; rw [h.nH, h.nV, h.nD]
theorem DL.rC (h : DL V m q q') (x y : Int) : refC p q' x y = refC p q x y := by unfold refC; rw [h.r, h.near]
theorem DL.quiet (h : DL V m q q') (x top n : Nat) : quietQ p q' x top n = quietQ p q x top n := by
  unfold quietQ busyQ
  rw [h.s, h.t]
  simp only [h.near]
theorem DL.touch (h : DL V m q q') (w hh : Nat) (x y : Int) (b : Bool) : DL V m (touchQ w hh q x y b) (touchQ w hh q' x y b) := by
  unfold touchQ
  by_cases hi : inB w hh x y
  · rw [if_pos hi, if_pos hi]
    exact ⟨h.v0, h.s, by show upd _ _ _ _ = upd _ _ _ _; rw [h.t], h.r, h.v, h.g⟩
  · rw [if_neg hi, if_neg hi]
    exact h
theorem DL.refine (h : DL V m q q') (w hh : Nat) (x y : Int) : DL V m (refineQ w hh q x y) (refineQ w hh q' x y) := by
  unfold refineQ
  by_cases hi : inB w hh x y
  · rw [if_pos hi, if_pos hi]
    exact ⟨h.v0, h.s, h.t, by show upd _ _ _ _ = upd _ _ _ _; rw [h.r], h.v, h.g⟩
  · rw [if_neg hi, if_neg hi]
    exact h
/-- A coefficient that stays insignificant in this plane. -/
theorem DL.low (h : DL V m q q') {x y : Int} {s : Nat} (hs : q.s x y = false) (hl : (V x y).natAbs < 2 ^ s) : DL V (upd m x y s) q q' := by
  refine ⟨h.v0, h.s, h.t, h.r, fun X Y => ?_, fun X Y => ?_⟩
  · unfold upd
    split
    · rename_i he
      obtain ⟨rfl, rfl⟩ := he
      have h1 := kept_abs (V X Y) (m X Y)
      have h2 := kept_abs (V X Y) s
      rw [Nat.div_eq_of_lt (h.lt hs)] at h1
      rw [Nat.div_eq_of_lt hl] at h2
      rw [h.v]
      omega
    · exact h.v X Y
  · unfold upd
    split
    · rename_i he
      obtain ⟨rfl, rfl⟩ := he
      rw [hs, decide_eq_false (by omega)]
    · exact h.g X Y
/-- A coefficient becomes significant. -/
theorem DL.mark (h : DL V m q q') {w hh : Nat} {x y : Int} {s : Nat} (hi : inB w hh x y) (hl : 2 ^ s ≤ (V x y).natAbs) (hu : (V x y).natAbs < 2 ^ (s + 1)) (hs : s ≤ 59) :
    DL V (upd m x y s) (markQ w hh q x y) (markQ w hh (setQ w hh q' x y (if V x y < 0 then -(2 ^ s) else 2 ^ s)) x y) := by
  have hp : (2 : Int) ^ s ≤ 2 ^ 59 := by
    have := Nat.pow_le_pow_right (show 0 < 2 by decide) hs
    exact_mod_cast this
  have hp0 : (0 : Int) < 2 ^ s := by exact_mod_cast Nat.two_pow_pos s
  have ho : okV (if V x y < 0 then -(2 ^ s) else 2 ^ s) := by unfold okV; split <;> omega
  have hd : (V x y).natAbs / 2 ^ s = 1 := by
    apply Nat.div_eq_of_lt_le
    · omega
    · rw [Nat.pow_succ] at hu; omega
  have hk : (if V x y < 0 then -(2 ^ s) else 2 ^ s) = keptM (V x y) s := by
    unfold keptM
    rw [hd, Nat.one_mul]
    split <;> simp
  unfold markQ setQ
  rw [if_pos hi, if_pos hi, if_pos ⟨hi, ho⟩]
  refine ⟨h.v0, by show upd _ _ _ _ = upd _ _ _ _; rw [h.s], h.t, h.r, fun X Y => ?_, fun X Y => ?_⟩
  · show upd q'.v x y _ X Y = _
    unfold upd
    split
    · rename_i he
      obtain ⟨rfl, rfl⟩ := he
      exact hk
    · exact h.v X Y
  · show upd q.s x y true X Y = _
    unfold upd
    split
    · rename_i he
      obtain ⟨rfl, rfl⟩ := he
      exact (decide_eq_true hl).symm
    · exact h.g X Y
/-- A plane more of a significant coefficient. -/
theorem kept_step (v : Int) (s : Nat) (h : 2 ^ (s + 1) ≤ v.natAbs) : keptM v s = (if bitM v s = 1 then keptM v (s + 1) + (if keptM v (s + 1) < 0 then -(2 ^ s) else 2 ^ s) else keptM v (s + 1)) := by
  have hn := kept_neg v (s + 1) h
  have e : v.natAbs / 2 ^ s * 2 ^ s = v.natAbs / 2 ^ (s + 1) * 2 ^ (s + 1) + v.natAbs / 2 ^ s % 2 * 2 ^ s := by
    have h1 : v.natAbs / 2 ^ (s + 1) = v.natAbs / 2 ^ s / 2 := by rw [Nat.pow_succ, ← Nat.div_div_eq_div_mul]
    have h2 := Nat.div_add_mod (v.natAbs / 2 ^ s) 2
    rw [h1, Nat.pow_succ]
    generalize v.natAbs / 2 ^ s = a at *
    generalize 2 ^ s = b at *
    have h3 : a / 2 * (b * 2) = 2 * (a / 2) * b := by rw [Nat.mul_comm b 2, ← Nat.mul_assoc, Nat.mul_comm (a / 2) 2]
    rw [h3, ← Nat.add_mul, h2]
  have hb : bitM v s = ((v.natAbs / 2 ^ s % 2 : Nat) : Int) := rfl
  have hp : ((2 ^ s : Nat) : Int) = (2 : Int) ^ s := by simp
  simp only [hn]
  rw [hb]
  unfold keptM
  rw [e]
  have h01 : v.natAbs / 2 ^ s % 2 = 0 ∨ v.natAbs / 2 ^ s % 2 = 1 := by omega
  by_cases hv : v < 0
  · simp only [if_pos hv]
    rcases h01 with h0 | h0 <;> rw [h0]
    · rw [if_neg (by decide)]; simp
    · rw [if_pos (by decide), Nat.one_mul, Int.natCast_add, hp]; omega
  · simp only [if_neg hv]
    rcases h01 with h0 | h0 <;> rw [h0]
    · rw [if_neg (by decide)]; simp
    · rw [if_pos (by decide), Nat.one_mul, Int.natCast_add, hp]
theorem DL.inc (h : DL V m q q') {x y : Int} {s : Nat} (p : Pp) (hps : p.s = s) (hi : inB p.w p.h x y) (hq : q.s x y = true) (hm : m x y = s + 1) (hv : okV (V x y)) :
    DL V (upd m x y s) q (if bitM (V x y) s = 1 then dincQ p q' x y else q') := by
  have hge := h.ge hq
  rw [hm] at hge
  have hle : 2 ^ s ≤ (V x y).natAbs := by have := Nat.pow_le_pow_right (show 0 < 2 by decide) (Nat.le_succ s); omega
  have hk := kept_step (V x y) s hge
  have hv' := h.v x y
  rw [hm] at hv'
  have ho : okV (keptM (V x y) s) := by
    have h1 := kept_abs (V x y) s
    have h2 := Nat.div_mul_le_self (V x y).natAbs (2 ^ s)
    unfold okV at *
    omega
  have hg : ∀ X Y, q.s X Y = decide (2 ^ upd m x y s X Y ≤ (V X Y).natAbs) := fun X Y => by
    unfold upd
    split
    · rename_i he
      obtain ⟨rfl, rfl⟩ := he
      rw [hq, decide_eq_true hle]
    · exact h.g X Y
  split
  · rename_i hb
    rw [if_pos hb, ← hv'] at hk
    unfold dincQ setQ wgt
    rw [hps, if_pos ⟨hi, by rw [← hk]; exact ho⟩]
    refine ⟨h.v0, h.s, h.t, h.r, fun X Y => ?_, hg⟩
    show upd q'.v x y _ X Y = _
    unfold upd
    split
    · rename_i he
      obtain ⟨rfl, rfl⟩ := he
      exact hk.symm
    · exact h.v X Y
  · rename_i hb
    rw [if_neg hb, ← hv'] at hk
    refine ⟨h.v0, h.s, h.t, h.r, fun X Y => ?_, hg⟩
    unfold upd
    split
    · rename_i he
      obtain ⟨rfl, rfl⟩ := he
      exact hk.symm
    · exact h.v X Y
end
/-- The decoder beside the encoder: what is left of the symbols T. -/
structure DR (V : Int → Int → Int) (T : List Sy) (m : Int → Int → Nat) (e : Es) (d : St × (List Sy × Bool)) : Prop where
  l : DL V m e.1 d.1
  r : ∃ R, T = e.2 ++ R ∧ d.2 = (R, false)
section
variable {V : Int → Int → Int} {T : List Sy} {m m' : Int → Int → Nat} {e : Es} {d : St × (List Sy × Bool)} {p : Pp}
theorem DR.congr (h : DR V T m e d) (hm : ∀ x y, V x y ≠ 0 → m x y = m' x y) : DR V T m' e d := ⟨h.l.congr hm, h.r⟩
theorem DR.ask (h : DR V T m e d) {c b : Int} (hb : b = 0 ∨ b = 1) (hT : (putS p e c b).2 <+: T) : askB p lstO d c = b ∧ DR V T m (putS p e c b) (askE p lstO d c) := by
  obtain ⟨R, h1, h2⟩ := h.r
  obtain ⟨R', h3⟩ := hT
  have hR : R = (cxP p c, b) :: R' := by
    unfold putS at h3
    rw [h1, List.append_assoc] at h3
    exact (List.append_cancel_left h3).symm
  have e1 : lstO d.2 (cxP p c) = (b, (R', false)) := by
    rw [h2, hR]
    simp [lstO, hb]
  unfold askB askE
  rw [e1]
  refine ⟨?_, h.l, R', h3.symm, rfl⟩
  unfold bitA
  rcases hb with rfl | rfl <;> simp
theorem DR.ask0 (h : DR V T m e d) {c c' b : Int} (hc : c' = c) (hb : b = 0 ∨ b = 1) (hT : (putS p e c b).2 <+: T) : askB p lstO d c' = b ∧ DR V T m (putS p e c b) (askE p lstO d c') := by subst hc; exact h.ask hb hT
theorem bit_lt (v : Int) (s : Nat) (hl : v.natAbs < 2 ^ (s + 1)) (hb : bitM v s ≠ 1) : v.natAbs < 2 ^ s := by
  unfold bitM at hb
  rcases Nat.lt_or_ge v.natAbs (2 ^ s) with h | h
  · exact h
  · have : v.natAbs / 2 ^ s = 1 := by
      apply Nat.div_eq_of_lt_le
      · omega
      · rw [Nat.pow_succ] at hl; omega
    rw [this] at hb
    simp at hb
theorem DR.sign (h : DR V T m e d) {x y : Int} (hi : inB p.w p.h x y) (hl : 2 ^ p.s ≤ (V x y).natAbs) (hu : (V x y).natAbs < 2 ^ (p.s + 1)) (hs : p.s ≤ 59) (hT : (signS p e x y).2 <+: T) : DR V T (upd m x y p.s) (signS p e x y) (dsignS p lstO d x y) := by
  obtain ⟨h1, h2⟩ := h.ask0 (p := p) (c := sgnC p e.1 x y) (c' := sgnC p d.1 x y) (h.l.sC x y) (xorM_in (negM (e.1.v x y)) (sgnF p e.1 x y)) hT
  obtain ⟨R, h3, h4⟩ := h2.r
  refine ⟨?_, R, h3, h4⟩
  have hv : valM p (askB p lstO d (sgnC p d.1 x y)) (sgnF p d.1 x y) = if V x y < 0 then -(2 ^ p.s) else 2 ^ p.s := by
    rw [h1, h.l.sF, h.l.v0]
    unfold valM wgt
    by_cases hV : V x y < 0
    · rw [if_pos hV, show negM (V x y) = 1 by unfold negM; rw [if_pos hV]]
      rcases sgnF_in p e.1 x y with hf | hf <;> (rw [hf]; rw [if_pos (by decide)])
    · rw [if_neg hV, show negM (V x y) = 0 by unfold negM; rw [if_neg hV]]
      rcases sgnF_in p e.1 x y with hf | hf <;> (rw [hf]; rw [if_neg (by decide)])
  show DL V _ (markQ p.w p.h e.1 x y) (markQ p.w p.h (setQ p.w p.h d.1 x y (valM p (askB p lstO d (sgnC p d.1 x y)) (sgnF p d.1 x y))) x y)
  rw [hv]
  exact h.l.mark hi hl hu hs
theorem DR.low (h : DR V T m e d) {x y : Int} {s : Nat} (hs : e.1.s x y = false) (hl : (V x y).natAbs < 2 ^ s) : DR V T (upd m x y s) e d := ⟨h.l.low hs hl, h.r⟩
/-- The bit of an insignificant coefficient. -/
theorem DR.code (h : DR V T m e d) {x y : Int} (hi : inB p.w p.h x y) (hq : e.1.s x y = false) (hm : m x y ≤ p.s + 1) (hs : p.s ≤ 59) (hT : (codeS p e x y).2 <+: T) : DR V T (upd m x y p.s) (codeS p e x y) (drestS p lstO d x y) := by
  have hu : (V x y).natAbs < 2 ^ (p.s + 1) := Nat.lt_of_lt_of_le (h.l.lt hq) (Nat.pow_le_pow_right (by decide) hm)
  have hb : bitM (e.1.v x y) p.s = bitM (V x y) p.s := by rw [h.l.v0]
  have hT1 : (putS p e (sigC p e.1 x y) (bitM (e.1.v x y) p.s)).2 <+: T := by
    refine List.IsPrefix.trans ?_ hT
    unfold codeS
    split
    · exact gw_sign _ _ _
    · exact List.prefix_refl _
  obtain ⟨h1, h2⟩ := h.ask0 (p := p) (c := sigC p e.1 x y) (c' := sigC p d.1 x y) (h.l.zC x y) (bitM_in (e.1.v x y) p.s) hT1
  unfold codeS at hT ⊢
  unfold drestS
  rw [h1]
  by_cases h0 : bitM (e.1.v x y) p.s = 1
  · rw [if_pos h0] at hT ⊢
    rw [if_pos h0]
    exact h2.sign hi (bit_one _ p.s p.s (Nat.le_refl _) (hb.symm.trans h0)) hu hs hT
  · rw [if_neg h0] at hT ⊢
    rw [if_neg h0]
    exact h2.low hq (bit_lt _ _ hu (by rw [← hb]; exact h0))
theorem mm_touch (s : Nat) (q : St) (w h : Nat) (x y : Int) (hi : inB w h x y) : upd (Mm s q.t noD) x y s = Mm s (touchQ w h q x y true).t noD := by
  funext X Y
  unfold touchQ Mm noD upd
  rw [if_pos hi]
  show _ = if (upd q.t x y true X Y || false) = true then s else s + 1
  unfold upd
  by_cases he : X = x ∧ Y = y
  · rw [if_pos he, if_pos he]; rfl
  · rw [if_neg he, if_neg he]
theorem mm_le (s : Nat) (t D : Int → Int → Bool) (x y : Int) : Mm s t D x y ≤ s + 1 := by unfold Mm; split <;> omega
theorem code_t (p : Pp) (e : Es) (x y : Int) : (codeS p e x y).1.t = e.1.t := by
  have hm : ∀ q : St, (markQ p.w p.h q x y).t = q.t := fun q => by unfold markQ; split <;> rfl
  unfold codeS
  split
  · exact hm _
  · rfl
/-- A significance pass. -/
theorem DR.sig (h : DR V T (Mm p.s e.1.t noD) e d) {z : Int × Int} (hi : inB p.w p.h z.1 z.2) (hs : p.s ≤ 59) (hT : (sigS p e z).2 <+: T) : DR V T (Mm p.s (sigS p e z).1.t noD) (sigS p e z) (dsigS p lstO d z) := by
  unfold dsigS
  rw [h.l.s, h.l.near]
  unfold sigS at hT ⊢
  by_cases hc : (!e.1.s z.1 z.2 && nearQ p e.1 z.1 z.2) = true
  · rw [if_pos hc] at hT ⊢
    rw [if_pos hc]
    have hq : e.1.s z.1 z.2 = false := by cases hq : e.1.s z.1 z.2 <;> simp_all
    have h1 := h.code hi hq (mm_le _ _ _ _ _) hs hT
    have e1 : upd (Mm p.s e.1.t noD) z.1 z.2 p.s = Mm p.s (touchS p (codeS p e z.1 z.2) z.1 z.2 true).1.t noD := by
      rw [← code_t p e z.1 z.2]
      exact mm_touch _ _ _ _ _ _ hi
    rw [e1] at h1
    exact ⟨h1.l.touch _ _ _ _ _, h1.r⟩
  · rw [if_neg hc] at hT ⊢
    rw [if_neg hc]
    exact h
/-- A refinement pass. -/
theorem DR.ref (h : DR V T (Mm p.s e.1.t noD) e d) {z : Int × Int} (hi : inB p.w p.h z.1 z.2) (hv : okV (V z.1 z.2)) (hT : (refS p e z).2 <+: T) : DR V T (Mm p.s (refS p e z).1.t noD) (refS p e z) (drefS p lstO d z) := by
  unfold drefS
  rw [h.l.s, h.l.t]
  unfold refS at hT ⊢
  by_cases hc : (e.1.s z.1 z.2 && !e.1.t z.1 z.2) = true
  · rw [if_pos hc] at hT ⊢
    rw [if_pos hc]
    have hq : e.1.s z.1 z.2 = true := by cases hq : e.1.s z.1 z.2 <;> simp_all
    have ht : e.1.t z.1 z.2 = false := by cases ht : e.1.t z.1 z.2 <;> simp_all
    obtain ⟨h1, h2⟩ := h.ask0 (p := p) (c := refC p e.1 z.1 z.2) (c' := refC p d.1 z.1 z.2) (h.l.rC z.1 z.2) (bitM_in (e.1.v z.1 z.2) p.s) hT
    have hm : Mm p.s e.1.t noD z.1 z.2 = p.s + 1 := by unfold Mm noD; rw [ht]; rfl
    have h3 := h.l.inc p rfl hi hq hm hv
    have e1 : upd (Mm p.s e.1.t noD) z.1 z.2 p.s = Mm p.s (touchS p (refnS p (putS p e (refC p e.1 z.1 z.2) (bitM (e.1.v z.1 z.2) p.s)) z.1 z.2) z.1 z.2 true).1.t noD := by
      have ht2 : (refineQ p.w p.h e.1 z.1 z.2).t = e.1.t := by unfold refineQ; split <;> rfl
      have := mm_touch p.s (refineQ p.w p.h e.1 z.1 z.2) p.w p.h z.1 z.2 hi
      rw [ht2] at this
      exact this
    rw [e1] at h3
    refine ⟨?_, h2.r⟩
    rw [h1]
    have e2 : bitM (e.1.v z.1 z.2) p.s = bitM (V z.1 z.2) p.s := by rw [h.l.v0]
    rw [e2]
    exact (h3.refine _ _ _ _).touch _ _ _ _ _
  · rw [if_neg hc] at hT ⊢
    rw [if_neg hc]
    exact h
end
end Go.Proofs.YtbhjapgioaiocaaDoor
set_option maxRecDepth 100000
namespace Go.Proofs.YtbhjapgioaiocaaDoor
open Go.RowKit

theorem gwt {e e' : Es} {T : List Sy} (h : Gw e e') (hT : e'.2 <+: T) : e.2 <+: T := List.IsPrefix.trans h hT
/-- What of a cleanup pass is done: the strips before, the columns before, the rows before. -/
def Dp (st x y : Nat) : Int → Int → Bool := fun X Y => decide (Y < 4 * (st : Int)) || (decide (Y < 4 * (st : Int) + 4) && (decide (X < (x : Int)) || (decide (X = (x : Int)) && decide (Y < (y : Int)))))
theorem dp_succ (st x y : Nat) (h1 : 4 * st ≤ y) (h2 : y < 4 * st + 4) : Dp st x (y + 1) = upd (Dp st x y) (x : Int) (y : Int) true := by
  funext X Y
  unfold Dp upd
  by_cases he : X = (x : Int) ∧ Y = (y : Int)
  · obtain ⟨rfl, rfl⟩ := he
    rw [if_pos ⟨rfl, rfl⟩]
    simp
    omega
  · rw [if_neg he]
    have : (decide (X = (x : Int)) && decide (Y < ((y + 1 : Nat) : Int))) = (decide (X = (x : Int)) && decide (Y < (y : Int))) := by
      by_cases hx : X = (x : Int)
      · have : (Y < ((y + 1 : Nat) : Int)) = (Y < (y : Int)) := by apply propext; omega
        simp only [this]
      · rw [decide_eq_false hx]; rfl
    rw [this]
theorem mm_upd (s : Nat) (t D : Int → Int → Bool) (x y : Int) : Mm s t (upd D x y true) = upd (Mm s t D) x y s := by
  funext X Y
  unfold Mm upd
  by_cases he : X = x ∧ Y = y
  · rw [if_pos he, if_pos he, Bool.or_true, if_pos rfl]
  · rw [if_neg he, if_neg he]
/-- The decoder beside the encoder in a cleanup pass. -/
structure DC (V : Int → Int → Int) (T : List Sy) (s : Nat) (D : Int → Int → Bool) (e : Es) (d : St × (List Sy × Bool)) : Prop where
  r : DR V T (Mm s e.1.t D) e d
  k : ∀ x y, e.1.s x y = true → (e.1.t x y || D x y) = true
section
variable {V : Int → Int → Int} {T : List Sy} {s : Nat} {D D' : Int → Int → Bool} {e : Es} {d : St × (List Sy × Bool)} {p : Pp}
theorem DC.congr (h : DC V T s D e d) (hD : ∀ x y, V x y ≠ 0 → D x y = D' x y) : DC V T s D' e d := by
  refine ⟨h.r.congr fun x y hv => by unfold Mm; rw [hD x y hv], fun x y hs => ?_⟩
  have hv : V x y ≠ 0 := fun h0 => by
    have h1 := h.r.l.ge hs
    have h2 := Nat.two_pow_pos (Mm s e.1.t D x y)
    rw [h0] at h1
    have h3 : (0 : Int).natAbs = 0 := rfl
    omega
  rw [← hD x y hv]
  exact h.k x y hs
theorem DC.low (h : DC V T s D e d) {x y : Int} (hs : e.1.s x y = false) (hl : (V x y).natAbs < 2 ^ s) : DC V T s (upd D x y true) e d := by
  refine ⟨by rw [mm_upd]; exact h.r.low hs hl, fun X Y hS => ?_⟩
  unfold upd
  split
  · simp
  · exact h.k X Y hS
theorem DC.skip (h : DC V T s D e d) {x y : Int} (hc : (e.1.s x y || e.1.t x y) = true) : DC V T s (upd D x y true) e d := by
  have hk : (e.1.t x y || D x y) = true := by
    cases hs : e.1.s x y with
    | true => exact h.k x y hs
    | false => rw [hs] at hc; simp at hc; rw [hc]; rfl
  have e1 : Mm s e.1.t (upd D x y true) = Mm s e.1.t D := by
    funext X Y
    unfold Mm upd
    by_cases he : X = x ∧ Y = y
    · obtain ⟨rfl, rfl⟩ := he
      rw [hk]
      simp
    · rw [if_neg he]
  refine ⟨by rw [e1]; exact h.r, fun X Y hS => ?_⟩
  unfold upd
  split
  · simp
  · exact h.k X Y hS
theorem mark_far (w h : Nat) (q : St) (x y X Y : Int) (he : ¬ (X = x ∧ Y = y)) : (markQ w h q x y).s X Y = q.s X Y := by
  unfold markQ
  split
  · exact upd_far _ _ _ _ _ _ he
  · rfl
theorem mark_t (w h : Nat) (q : St) (x y : Int) : (markQ w h q x y).t = q.t := by unfold markQ; split <;> rfl
theorem DC.code (h : DC V T p.s D e d) {x y : Int} (hi : inB p.w p.h x y) (hq : e.1.s x y = false) (hs : p.s ≤ 59) (hT : (codeS p e x y).2 <+: T) : DC V T p.s (upd D x y true) (codeS p e x y) (drestS p lstO d x y) := by
  refine ⟨by rw [code_t, mm_upd]; exact h.r.code hi hq (mm_le _ _ _ _ _) hs hT, fun X Y hS => ?_⟩
  rw [code_t]
  unfold upd
  by_cases he : X = x ∧ Y = y
  · rw [if_pos he]; simp
  · rw [if_neg he]
    have e1 : (codeS p e x y).1.s X Y = e.1.s X Y := by
      unfold codeS
      split
      · exact mark_far _ _ _ _ _ _ _ he
      · rfl
    rw [e1] at hS
    exact h.k X Y hS
theorem DC.cln (h : DC V T p.s D e d) {z : Int × Int} (hi : inB p.w p.h z.1 z.2) (hs : p.s ≤ 59) (hT : (clnS p e z).2 <+: T) : DC V T p.s (upd D z.1 z.2 true) (clnS p e z) (dclnS p lstO d z) := by
  unfold dclnS
  rw [h.r.l.s, h.r.l.t]
  unfold clnS at hT ⊢
  by_cases hc : (e.1.s z.1 z.2 || e.1.t z.1 z.2) = true
  · rw [if_pos hc] at hT ⊢
    rw [if_pos hc]
    exact h.skip hc
  · rw [if_neg hc] at hT ⊢
    rw [if_neg hc]
    exact h.code hi (by cases hq : e.1.s z.1 z.2 <;> simp_all) hs hT
theorem DC.rows (hs : p.s ≤ 59) (st x j : Nat) (hx : x < p.w) (hj : 4 * st ≤ j) (k : Nat) : ∀ {e : Es} {d : St × (List Sy × Bool)}, DC V T p.s (Dp st x j) e d → j + k ≤ 4 * st + 4 → j + k ≤ p.h → ((colP x j k).foldl (clnS p) e).2 <+: T →
    DC V T p.s (Dp st x (j + k)) ((colP x j k).foldl (clnS p) e) ((colP x j k).foldl (dclnS p lstO) d) := by
  induction k with
  | zero => exact fun h _ _ _ => h
  | succ k ih =>
    intro e d h h1 h2 hT
    rw [colP_succ, List.foldl_append] at hT ⊢
    rw [List.foldl_append]
    have h3 := ih h (by omega) (by omega) (gwt (gw_cln (p := p) _ _) hT)
    have h4 := h3.cln (z := ((x : Int), ((j + k : Nat) : Int))) (by unfold inB; simp only; omega) hs hT
    rw [show j + (k + 1) = j + k + 1 by omega, dp_succ st x (j + k) (by omega) (by omega)]
    exact h4
theorem zer_all (b : Nat → Bool) : (∀ j, j < zer b → b j = false) ∧ (zer b < 4 → b (zer b) = true) := by
  unfold zer
  cases h0 : b 0
  · cases h1 : b 1
    · cases h2 : b 2
      · cases h3 : b 3
        · simp
          intro j hj
          obtain rfl | rfl | rfl | rfl : j = 0 ∨ j = 1 ∨ j = 2 ∨ j = 3 := by omega
          all_goals assumption
        · simp [h3]
          intro j hj
          obtain rfl | rfl | rfl : j = 0 ∨ j = 1 ∨ j = 2 := by omega
          all_goals assumption
      · simp [h2]
        intro j hj
        obtain rfl | rfl : j = 0 ∨ j = 1 := by omega
        all_goals assumption
    · simp [h1, h0]
  · simp [h0]
theorem quiet_all {q : St} {x top n : Nat} (h : quietQ p q x top n = true) : n = 4 ∧ ∀ r : Nat, top ≤ r → r < top + 4 → q.s (x : Int) (r : Int) = false ∧ q.t (x : Int) (r : Int) = false := by
  unfold quietQ at h
  rw [Bool.and_eq_true] at h
  have h4 : n = 4 := of_decide_eq_true h.2
  refine ⟨h4, fun r h1 h2 => ?_⟩
  have h3 := List.all_eq_true.1 h.1 ((x : Int), (r : Int)) (by
    unfold colP
    exact List.mem_map.2 ⟨r - top, List.mem_range.2 (by omega), by rw [show top + (r - top) = r by omega]⟩)
  simp [busyQ] at h3
  exact ⟨h3.1.1, h3.1.2⟩
theorem DC.zeros {st x : Nat} (h : DC V T p.s (Dp st x (4 * st)) e d) (hq : ∀ r : Nat, 4 * st ≤ r → r < 4 * st + 4 → e.1.s (x : Int) (r : Int) = false) (k : Nat) (hk : k ≤ zerQ p e.1 x (4 * st)) : DC V T p.s (Dp st x (4 * st + k)) e d := by
  have hz4 := zer_le (oneQ p e.1 x (4 * st))
  induction k with
  | zero => exact h
  | succ k ih =>
    have hk4 : k < 4 := by unfold zerQ at hk; omega
    have h1 := ih (by omega)
    have hq1 := hq (4 * st + k) (by omega) (by omega)
    have hz := (zer_all (oneQ p e.1 x (4 * st))).1 k (by unfold zerQ at hk; omega)
    have hu : (V (x : Int) ((4 * st + k : Nat) : Int)).natAbs < 2 ^ (p.s + 1) := Nat.lt_of_lt_of_le (h1.r.l.lt hq1) (Nat.pow_le_pow_right (by decide) (mm_le _ _ _ _ _))
    have hb : bitM (V (x : Int) ((4 * st + k : Nat) : Int)) p.s ≠ 1 := fun hb => by
      unfold oneQ at hz
      rw [h1.r.l.v0, hb] at hz
      cases hz
    have h2 := h1.low hq1 (bit_lt _ _ hu hb)
    rw [show 4 * st + (k + 1) = 4 * st + k + 1 by omega, dp_succ st x (4 * st + k) (by omega) (by omega)]
    exact h2
theorem DC.put (h : DC V T s D e d) {c b : Int} (hb : b = 0 ∨ b = 1) (hT : (putS p e c b).2 <+: T) : askB p lstO d c = b ∧ DC V T s D (putS p e c b) (askE p lstO d c) := by
  obtain ⟨h1, h2⟩ := h.r.ask (p := p) hb hT
  exact ⟨h1, h2, h.k⟩
theorem DC.sign (h : DC V T p.s D e d) {x y : Int} (hi : inB p.w p.h x y) (hl : 2 ^ p.s ≤ (V x y).natAbs) (hu : (V x y).natAbs < 2 ^ (p.s + 1)) (hs : p.s ≤ 59) (hT : (signS p e x y).2 <+: T) : DC V T p.s (upd D x y true) (signS p e x y) (dsignS p lstO d x y) := by
  have ht : (signS p e x y).1.t = e.1.t := mark_t _ _ _ _ _
  refine ⟨by rw [ht, mm_upd]; exact h.r.sign hi hl hu hs hT, fun X Y hS => ?_⟩
  rw [ht]
  unfold upd
  by_cases he : X = x ∧ Y = y
  · rw [if_pos he]; simp
  · rw [if_neg he]
    have e1 : (signS p e x y).1.s X Y = e.1.s X Y := mark_far _ _ _ _ _ _ _ he
    rw [e1] at hS
    exact h.k X Y hS
/-- A column. -/
theorem DC.column {st x n : Nat} (h : DC V T p.s (Dp st x (4 * st)) e d) (hs : p.s ≤ 59) (hx : x < p.w) (hn : 4 * st + n ≤ p.h) (hn4 : n ≤ 4) (hT : (colS p e x (4 * st) n).2 <+: T) : DC V T p.s (Dp st x (4 * st + n)) (colS p e x (4 * st) n) (dcolS p lstO d x (4 * st) n) := by
  rw [dcol_is, h.r.l.quiet]
  unfold colS at hT ⊢
  by_cases hq : quietQ p e.1 x (4 * st) n = true
  · rw [if_pos hq] at hT ⊢
    rw [if_pos hq]
    obtain ⟨rfl, hqa⟩ := quiet_all hq
    have hz4 := zer_le (oneQ p e.1 x (4 * st))
    obtain ⟨Z, hZ⟩ : ∃ Z, Z = zerQ p e.1 x (4 * st) := ⟨_, rfl⟩
    have hZ4 : Z ≤ 4 := by rw [hZ]; exact hz4
    have hlo := h.zeros (fun r h1 h2 => (hqa r h1 h2).1)
    rw [← hZ] at hlo
    by_cases h4 : Z = 4
    · have er : runS p e x (4 * st) = putS p e 17 0 := by unfold runS; rw [← hZ, if_pos h4]
      have en : runN p e.1 x (4 * st) = 4 := by unfold runN; rw [← hZ, if_pos h4]
      rw [er, en] at hT ⊢
      have ec : colP x (4 * st + 4) (4 - 4) = [] := rfl
      rw [ec] at hT ⊢
      obtain ⟨h1, h2⟩ := (hlo 4 (by omega)).put (p := p) (.inl rfl) hT
      rw [if_pos h1]
      exact h2
    · have er : runS p e x (4 * st) = signS p (putS p (putS p (putS p e 17 1) 18 ((Z / 2 : Nat) : Int)) 18 ((Z % 2 : Nat) : Int)) (x : Int) ((4 * st + Z : Nat) : Int) := by unfold runS; rw [← hZ, if_neg h4]
      have en : runN p e.1 x (4 * st) = Z + 1 := by unfold runN; rw [← hZ, if_neg h4]
      rw [er, en] at hT ⊢
      have hT4 := gwt (gw_fold (clnS p) (gw_cln (p := p)) (colP x (4 * st + (Z + 1)) (4 - (Z + 1))) _) hT
      have hT3 := gwt (gw_sign (p := p) _ (x : Int) ((4 * st + Z : Nat) : Int)) hT4
      have hT2 := gwt (gw_put (p := p) _ 18 ((Z % 2 : Nat) : Int)) hT3
      have hT1 := gwt (gw_put (p := p) _ 18 ((Z / 2 : Nat) : Int)) hT2
      obtain ⟨a1, g1⟩ := (hlo Z (Nat.le_refl _)).put (p := p) (.inr rfl) hT1
      obtain ⟨a2, g2⟩ := g1.put (p := p) (by omega) hT2
      obtain ⟨a3, g3⟩ := g2.put (p := p) (by omega) hT3
      rw [if_neg (by rw [a1]; decide)]
      have hrow : drowN p lstO (askE p lstO d 17) = Z := by
        unfold drowN
        rw [a2, a3]
        omega
      have hsq := (hqa (4 * st + Z) (by omega) (by omega)).1
      have hu : (V (x : Int) ((4 * st + Z : Nat) : Int)).natAbs < 2 ^ (p.s + 1) := Nat.lt_of_lt_of_le (h.r.l.lt hsq) (Nat.pow_le_pow_right (by decide) (mm_le _ _ _ _ _))
      have hone := (zer_all (oneQ p e.1 x (4 * st))).2 (by unfold zerQ at hZ; omega)
      have hb : bitM (V (x : Int) ((4 * st + Z : Nat) : Int)) p.s = 1 := by
        have h5 : oneQ p e.1 x (4 * st) Z = true := by rw [hZ]; exact hone
        unfold oneQ at h5
        rw [h.r.l.v0] at h5
        simpa using h5
      have g4 := g3.sign (x := (x : Int)) (y := ((4 * st + Z : Nat) : Int)) (by unfold inB; omega) (bit_one _ p.s p.s (Nat.le_refl _) hb) hu hs hT4
      rw [← dp_succ st x (4 * st + Z) (by omega) (by omega)] at g4
      unfold dtailS drunS
      rw [hrow]
      have g5 := DC.rows hs st x (4 * st + Z + 1) hx (by omega) (4 - (Z + 1)) g4 (by omega) (by omega) hT
      rw [show 4 * st + Z + 1 + (4 - (Z + 1)) = 4 * st + 4 by omega] at g5
      exact g5
  · rw [if_neg hq] at hT ⊢
    rw [if_neg hq]
    exact DC.rows hs st x (4 * st) hx (Nat.le_refl _) n h (by omega) hn hT
theorem dp_col (st x n w hh : Nat) (hn : n = min 4 (hh - 4 * st)) {X Y : Int} (hi : inB w hh X Y) : Dp st x (4 * st + n) X Y = Dp st (x + 1) (4 * st) X Y := by
  unfold Dp inB at *
  rw [Bool.eq_iff_iff]
  simp
  omega
theorem dp_str (st w hh : Nat) {X Y : Int} (hi : inB w hh X Y) : Dp st w (4 * st) X Y = Dp (st + 1) 0 (4 * (st + 1)) X Y := by
  unfold Dp inB at *
  rw [Bool.eq_iff_iff]
  simp
  omega
theorem DC.strip {st n : Nat} (hV : ∀ x y, V x y ≠ 0 → inB p.w p.h x y) (hs : p.s ≤ 59) (hn : n = min 4 (p.h - 4 * st)) (hst : 4 * st ≤ p.h) (k : Nat) : ∀ {e : Es} {d : St × (List Sy × Bool)}, DC V T p.s (Dp st 0 (4 * st)) e d → k ≤ p.w → (strS p e (4 * st) n k).2 <+: T → DC V T p.s (Dp st k (4 * st)) (strS p e (4 * st) n k) (dstrS p lstO d (4 * st) n k) := by
  induction k with
  | zero => exact fun h _ _ => h
  | succ k ih =>
    intro e d h hk hT
    unfold strS at hT ⊢
    unfold dstrS
    rw [foldl_rng] at hT ⊢
    rw [foldl_rng]
    have h1 := ih h (by omega) (gwt (gw_col (p := p) _ k (4 * st) n) hT)
    have h2 := h1.column hs hk (by omega) (by omega) hT
    exact h2.congr fun x y hv => dp_col st k n p.w p.h hn (hV x y hv)
theorem DC.strips (hV : ∀ x y, V x y ≠ 0 → inB p.w p.h x y) (hs : p.s ≤ 59) (k : Nat) : ∀ {e : Es} {d : St × (List Sy × Bool)}, DC V T p.s (Dp 0 0 0) e d → k ≤ (p.h + 3) / 4 → (clS p e k).2 <+: T → DC V T p.s (Dp k 0 (4 * k)) (clS p e k) (dclS p lstO d k) := by
  induction k with
  | zero => exact fun h _ _ => h
  | succ k ih =>
    intro e d h hk hT
    unfold clS at hT ⊢
    unfold dclS
    rw [foldl_rng] at hT ⊢
    rw [foldl_rng]
    have h1 := ih h (by omega) (gwt (gw_str (p := p) _ (4 * k) _ p.w) hT)
    have h2 := DC.strip hV hs (n := min 4 (p.h - 4 * k)) rfl (by omega) p.w h1 (Nat.le_refl _) hT
    exact h2.congr fun x y hv => dp_str k p.w p.h (hV x y hv)
end
end Go.Proofs.YtbhjapgioaiocaaDoor
set_option maxRecDepth 100000
namespace Go.Proofs.YtbhjapgioaiocaaDoor
open Go.RowKit

theorem in_scan {w h : Nat} {x y : Int} (hi : inB w h x y) : (x, y) ∈ scan w h := by
  obtain ⟨h1, h2, h3, h4⟩ := hi
  unfold scan scnP
  refine List.mem_flatMap.2 ⟨y.toNat / 4, List.mem_range.2 (by omega), ?_⟩
  unfold strP
  refine List.mem_flatMap.2 ⟨x.toNat, List.mem_range.2 (by omega), ?_⟩
  unfold colP
  refine List.mem_map.2 ⟨y.toNat % 4, List.mem_range.2 (by omega), ?_⟩
  exact Prod.ext (by show ((x.toNat : Nat) : Int) = x; omega) (by show ((4 * (y.toNat / 4) + y.toNat % 4 : Nat) : Int) = y; omega)
section
variable {V : Int → Int → Int} {T : List Sy} {e : Es} {d : St × (List Sy × Bool)} {p : Pp}
theorem DR.sigs (hs : p.s ≤ 59) (l : List (Int × Int)) : ∀ {e : Es} {d : St × (List Sy × Bool)}, DR V T (Mm p.s e.1.t noD) e d → (∀ z ∈ l, inB p.w p.h z.1 z.2) → (l.foldl (sigS p) e).2 <+: T → DR V T (Mm p.s (l.foldl (sigS p) e).1.t noD) (l.foldl (sigS p) e) (l.foldl (dsigS p lstO) d) := by
  induction l with
  | nil => exact fun h _ _ => h
  | cons a l ih =>
    intro e d h hi hT
    exact ih (h.sig (hi a (by simp)) hs (gwt (gw_fold (sigS p) (gw_sig (p := p)) l _) hT)) (fun z hz => hi z (List.mem_cons_of_mem _ hz)) hT
theorem ref_done (e : Es) (z : Int × Int) (hi : inB p.w p.h z.1 z.2) : (refS p e z).1.s = e.1.s ∧ (e.1.s z.1 z.2 = true → (refS p e z).1.t z.1 z.2 = true) ∧ ∀ X Y, e.1.t X Y = true → (refS p e z).1.t X Y = true := by
  have rt : ∀ q : St, (refineQ p.w p.h q z.1 z.2).t = q.t := fun q => by unfold refineQ; split <;> rfl
  have rs : ∀ q : St, (refineQ p.w p.h q z.1 z.2).s = q.s := fun q => by unfold refineQ; split <;> rfl
  unfold refS
  by_cases hc : (e.1.s z.1 z.2 && !e.1.t z.1 z.2) = true
  · rw [if_pos hc]
    refine ⟨(touch_s _ _ _ _ _ _).trans (rs _), fun _ => touch_at _ _ _ _ _ _ hi, fun X Y h => ?_⟩
    by_cases he : X = z.1 ∧ Y = z.2
    · obtain ⟨rfl, rfl⟩ := he
      exact touch_at _ _ _ _ _ _ hi
    · refine (touch_far _ _ _ _ _ _ _ _ he).trans ?_
      show (refineQ _ _ _ _ _).t _ _ = _
      rw [rt]
      exact h
  · rw [if_neg hc]
    refine ⟨rfl, fun h => ?_, fun _ _ h => h⟩
    simp at hc
    exact hc h
theorem DR.refs (hv : ∀ x y, okV (V x y)) (l : List (Int × Int)) : ∀ {e : Es} {d : St × (List Sy × Bool)}, DR V T (Mm p.s e.1.t noD) e d → (∀ z ∈ l, inB p.w p.h z.1 z.2) → (l.foldl (refS p) e).2 <+: T → DR V T (Mm p.s (l.foldl (refS p) e).1.t noD) (l.foldl (refS p) e) (l.foldl (drefS p lstO) d) ∧ (∀ z ∈ l, (l.foldl (refS p) e).1.s z.1 z.2 = true → (l.foldl (refS p) e).1.t z.1 z.2 = true) ∧ ((l.foldl (refS p) e).1.s = e.1.s ∧ ∀ X Y, e.1.t X Y = true → (l.foldl (refS p) e).1.t X Y = true) := by
  induction l with
  | nil => exact fun h _ _ => ⟨h, fun z hz => by simp at hz, rfl, fun _ _ h => h⟩
  | cons a l ih =>
    intro e d h hi hT
    have ha := hi a (by simp)
    obtain ⟨d1, d2, d3⟩ := ref_done (p := p) e a ha
    obtain ⟨h1, h2, h3, h4⟩ := ih (h.ref ha (hv _ _) (gwt (gw_fold (refS p) (gw_ref (p := p)) l _) hT)) (fun z hz => hi z (List.mem_cons_of_mem _ hz)) hT
    refine ⟨h1, fun z hz hs => ?_, h3.trans d1, fun X Y h => h4 X Y (d3 X Y h)⟩
    rcases List.mem_cons.1 hz with rfl | hz
    · exact h4 _ _ (d2 (by rw [← d1, ← h3]; exact hs))
    · exact h2 z hz hs
theorem DR.off {m : Int → Int → Nat} (l : List (Int × Int)) : ∀ {e : Es} {d : St × (List Sy × Bool)}, DR V T m e d → DR V T m (offS p e l) (doffS p d l) := by
  induction l with
  | nil => exact fun h => h
  | cons a l ih => exact fun h => ih (e := touchS p _ a.1 a.2 false) (d := dtouchS p _ a.1 a.2 false) ⟨h.l.touch _ _ _ _ _, h.r⟩
theorem DR.chk {m : Int → Int → Nat} (h : DR V T m e d) (y : Bool) (hT : (endS p y e).2 <+: T) : DR V T m (endS p y e) (dendS p lstO y d).1 ∧ (dendS p lstO y d).2 = true := by
  unfold endS at hT ⊢
  unfold dendS
  cases y with
  | false => exact ⟨h, rfl⟩
  | true =>
    rw [if_pos rfl] at hT ⊢
    rw [if_pos rfl]
    unfold chkS at hT ⊢
    have t3 := gwt (gw_put (p := p) _ 18 0) hT
    have t2 := gwt (gw_put (p := p) _ 18 1) t3
    have t1 := gwt (gw_put (p := p) _ 18 0) t2
    obtain ⟨a1, g1⟩ := h.ask (p := p) (.inr rfl) t1
    obtain ⟨a2, g2⟩ := g1.ask (p := p) (.inl rfl) t2
    obtain ⟨a3, g3⟩ := g2.ask (p := p) (.inr rfl) t3
    obtain ⟨a4, g4⟩ := g3.ask (p := p) (.inl rfl) hT
    refine ⟨g4, ?_⟩
    have e5 : ((([1, 0, 1, 0] : List Int).foldl (dchkS p lstO) (d, true)).2) = ((((true && decide (askB p lstO d 18 = 1)) && decide (askB p lstO (askE p lstO d 18) 18 = 0)) && decide (askB p lstO (askE p lstO (askE p lstO d 18) 18) 18 = 1)) && decide (askB p lstO (askE p lstO (askE p lstO (askE p lstO d 18) 18) 18) 18 = 0)) := rfl
    rw [e5, a1, a2, a3, a4]
    rfl
theorem dp_end (w h : Nat) {X Y : Int} (hi : inB w h X Y) : Dp ((h + 3) / 4) 0 (4 * ((h + 3) / 4)) X Y = true := by
  unfold Dp inB at *
  simp
  omega
theorem dp_start (w h : Nat) {X Y : Int} (hi : inB w h X Y) : Dp 0 0 0 X Y = false := by
  unfold Dp inB at *
  simp
  omega
/-- A whole pass. -/
theorem DR.pass (h : DR V T (Mm p.s e.1.t noD) e d) (hV : ∀ x y, V x y ≠ 0 → inB p.w p.h x y) (hv : ∀ x y, okV (V x y)) (hs : p.s ≤ 59) (k : Int) (hk : k = 0 ∨ k = 1 ∨ k = 2) (y : Bool) (hk2 : k = 2 → ∀ X Y, e.1.s X Y = true → e.1.t X Y = true) (hT : (passS p k y e).2 <+: T) :
    (dpassS p lstO k y d).2 = true ∧ ((k = 2 ∧ DR V T (fun _ _ => p.s) (passS p k y e) (dpassS p lstO k y d).1 ∧ ∀ X Y, V X Y ≠ 0 → (passS p k y e).1.t X Y = false) ∨
      (k ≠ 2 ∧ DR V T (Mm p.s (passS p k y e).1.t noD) (passS p k y e) (dpassS p lstO k y d).1 ∧ (k = 1 → ∀ X Y, (passS p k y e).1.s X Y = true → (passS p k y e).1.t X Y = true))) := by
  have hin : ∀ z ∈ scan p.w p.h, inB p.w p.h z.1 z.2 := fun z hz => scan_in hz
  rcases hk with rfl | rfl | rfl
  · have e1 : passS p 0 y e = (scan p.w p.h).foldl (sigS p) e := rfl
    have e2 : dpassS p lstO 0 y d = ((scan p.w p.h).foldl (dsigS p lstO) d, true) := rfl
    rw [e1] at hT ⊢
    rw [e2]
    exact ⟨rfl, .inr ⟨by decide, DR.sigs hs _ h hin hT, fun h => by cases h⟩⟩
  · have e1 : passS p 1 y e = (scan p.w p.h).foldl (refS p) e := rfl
    have e2 : dpassS p lstO 1 y d = ((scan p.w p.h).foldl (drefS p lstO) d, true) := rfl
    rw [e1] at hT ⊢
    rw [e2]
    obtain ⟨h1, h2, h3, h4⟩ := DR.refs hv _ h hin hT
    refine ⟨rfl, .inr ⟨by decide, h1, fun _ X Y hS => h2 (X, Y) (in_scan (hV X Y fun h0 => ?_)) hS⟩⟩
    have h5 := h1.l.ge hS
    rw [h0] at h5
    have h6 := Nat.two_pow_pos (Mm p.s (List.foldl (refS p) e (scan p.w p.h)).1.t noD X Y)
    have h7 : (0 : Int).natAbs = 0 := rfl
    omega
  · have e1 : passS p 2 y e = endS p y (offS p (clS p e ((p.h + 3) / 4)) (scan p.w p.h)) := rfl
    have e2 : dpassS p lstO 2 y d = dendS p lstO y (doffS p (dclS p lstO d ((p.h + 3) / 4)) (scan p.w p.h)) := rfl
    rw [e1] at hT ⊢
    rw [e2]
    have g0 : Gw (offS p (clS p e ((p.h + 3) / 4)) (scan p.w p.h)) (endS p y (offS p (clS p e ((p.h + 3) / 4)) (scan p.w p.h))) := by
      unfold endS chkS
      split
      · exact (((gw_put _ _ _).trans (gw_put _ _ _)).trans (gw_put _ _ _)).trans (gw_put _ _ _)
      · exact Gw.refl _
    have hT1 := gwt g0 hT
    have hT0 := gwt (gw_off (p := p) _ _) hT1
    have hc0 : DC V T p.s (Dp 0 0 0) e d := by
      have : DC V T p.s noD e d := ⟨h, fun X Y hS => by rw [hk2 rfl X Y hS]; rfl⟩
      exact this.congr fun x y hv => (dp_start p.w p.h (hV x y hv)).symm
    have hc1 := DC.strips hV hs ((p.h + 3) / 4) hc0 (Nat.le_refl _) hT0
    have hr : DR V T (fun _ _ => p.s) (clS p e ((p.h + 3) / 4)) (dclS p lstO d ((p.h + 3) / 4)) := hc1.r.congr fun x y hv => by
      unfold Mm
      rw [dp_end p.w p.h (hV x y hv), Bool.or_true, if_pos rfl]
    obtain ⟨h1, h2⟩ := (hr.off (p := p) (scan p.w p.h)).chk y hT
    refine ⟨h2, .inl ⟨rfl, h1, fun X Y hv => ?_⟩⟩
    have e3 : (endS p y (offS p (clS p e ((p.h + 3) / 4)) (scan p.w p.h))).1 = (offS p (clS p e ((p.h + 3) / 4)) (scan p.w p.h)).1 := by unfold endS; split <;> rfl
    rw [e3]
    exact (off_t (scan p.w p.h) _ hin).1 (X, Y) (in_scan (hV X Y hv))
end
/-- The planes that miss after the first n passes. -/
def misM (planes : Nat) (n : Nat) (t : Int → Int → Bool) : Int → Int → Nat := fun x y => if n = 0 then planes else if kndP ((n : Int) - 1) = 2 then (planes - 1 - (plnP ((n : Int) - 1)).toNat) else if t x y then planes - 1 - (plnP ((n : Int) - 1)).toNat else planes - (plnP ((n : Int) - 1)).toNat
/-- The decoder's block beside the encoder's after n passes. -/
structure Bs (V : Int → Int → Int) (planes : Nat) (n : Nat) (q q' : St) : Prop where
  l : DL V (misM planes n q.t) q q'
  z : n = 0 ∨ kndP ((n : Int) - 1) = 2 → ∀ X Y, V X Y ≠ 0 → q.t X Y = false
  o : n = 0 ∨ kndP ((n : Int) - 1) = 1 → ∀ X Y, q.s X Y = true → q.t X Y = true
theorem pln_bound (planes n : Nat) (hn : n < 3 * planes - 2) : 0 ≤ plnP (n : Int) ∧ plnP (n : Int) ≤ (planes : Int) - 1 := by
  unfold plnP
  split
  · omega
  split <;> omega
theorem Bs.pass {V : Int → Int → Int} {planes n : Nat} {q q' : St} (w h : Nat) (o : Int) (m : Mo) (H : Bs V planes n q q') (hV : ∀ x y, V x y ≠ 0 → inB w h x y) (hv : ∀ x y, okV (V x y)) (hn : n < 3 * planes - 2) (hp : planes ≤ 60) :
    (dpassS (ppR w h (n : Int) planes o m) lstO (kndP (n : Int)) m.y (q', ((runQ w h (n : Int) planes o m q).2, false))).2 = true ∧ (dpassS (ppR w h (n : Int) planes o m) lstO (kndP (n : Int)) m.y (q', ((runQ w h (n : Int) planes o m q).2, false))).1.2 = ([], false) ∧
    Bs V planes (n + 1) (runQ w h (n : Int) planes o m q).1 (dpassS (ppR w h (n : Int) planes o m) lstO (kndP (n : Int)) m.y (q', ((runQ w h (n : Int) planes o m q).2, false))).1.1 := by
  obtain ⟨b1, b2⟩ := pln_bound planes n hn
  obtain ⟨P, hP⟩ : ∃ P, P = ppR w h (n : Int) planes o m := ⟨_, rfl⟩
  have hw : P.w = w := by rw [hP]; rfl
  have hh : P.h = h := by rw [hP]; rfl
  have hs : P.s = ((planes : Int) - 1 - plnP (n : Int)).toNat := by rw [hP]; rfl
  have hs2 : P.s = planes - 1 - (plnP (n : Int)).toNat := by omega
  have hrq : runQ w h (n : Int) planes o m q = passS P (kndP (n : Int)) m.y (q, []) := by rw [hP]; rfl
  rw [hrq, ← hP]
  have hkd := knd_in (n : Int) (by omega)
  have hprev : (n = 0 ∧ kndP (n : Int) = 2 ∧ plnP (n : Int) = 0) ∨ (0 < n ∧ kndP ((n : Int) - 1) = 2 ∧ kndP (n : Int) = 0 ∧ plnP (n : Int) = plnP ((n : Int) - 1) + 1 ∧ 0 ≤ plnP ((n : Int) - 1)) ∨ (0 < n ∧ kndP ((n : Int) - 1) = 0 ∧ kndP (n : Int) = 1 ∧ plnP (n : Int) = plnP ((n : Int) - 1)) ∨ (0 < n ∧ kndP ((n : Int) - 1) = 1 ∧ kndP (n : Int) = 2 ∧ plnP (n : Int) = plnP ((n : Int) - 1)) := by
    rcases Nat.eq_zero_or_pos n with rfl | hn0
    · exact .inl ⟨rfl, rfl, rfl⟩
    · refine .inr ?_
      by_cases h1 : n = 1
      · subst h1
        exact .inl ⟨by omega, rfl, rfl, rfl, by decide⟩
      · have k1 : kndP (n : Int) = ((n : Int) - 1) % 3 := by unfold kndP; rw [if_neg (by omega), if_neg (by omega)]
        have k2 : kndP ((n : Int) - 1) = ((n : Int) - 1 - 1) % 3 := by unfold kndP; rw [if_neg (by omega), if_neg (by omega)]
        have p1 : plnP (n : Int) = ((n : Int) - 1) / 3 + 1 := by unfold plnP; rw [if_neg (by omega), if_neg (by omega)]
        have p2 : plnP ((n : Int) - 1) = ((n : Int) - 1 - 1) / 3 + 1 := by unfold plnP; rw [if_neg (by omega), if_neg (by omega)]
        omega
  have hl : DL V (Mm P.s q.t noD) q q' := by
    refine H.l.congr fun x y hv0 => ?_
    unfold Mm noD misM
    rw [Bool.or_false]
    rcases hprev with ⟨h0, h1, h2⟩ | ⟨h0, h1, h2, h3, h4⟩ | ⟨h0, h1, h2, h3⟩ | ⟨h0, h1, h2, h3⟩
    · rw [H.z (.inl h0) x y hv0, if_pos h0, if_neg (by decide)]
      omega
    · rw [H.z (.inr h1) x y hv0, if_neg (by omega), if_pos h1, if_neg (by decide)]
      omega
    · rw [if_neg (by omega), if_neg (by rw [h1]; decide)]
      split <;> omega
    · rw [if_neg (by omega), if_neg (by rw [h1]; decide)]
      split <;> omega
  have h0 : DR V (passS P (kndP (n : Int)) m.y (q, [])).2 (Mm P.s ((q, []) : Es).1.t noD) (q, []) (q', ((passS P (kndP (n : Int)) m.y (q, [])).2, false)) := ⟨hl, _, rfl, rfl⟩
  obtain ⟨r1, r2⟩ := h0.pass (by rw [hw, hh]; exact hV) hv (by omega) (kndP (n : Int)) hkd m.y (fun hk => by
    rcases hprev with ⟨h0, h1, h2⟩ | ⟨h0, h1, h2, h3, h4⟩ | ⟨h0, h1, h2, h3⟩ | ⟨h0, h1, h2, h3⟩
    · exact H.o (.inl h0)
    · rw [h2] at hk; cases hk
    · rw [h2] at hk; cases hk
    · exact H.o (.inr h1)) (List.prefix_refl _)
  have en : (((n + 1 : Nat) : Int) - 1) = (n : Int) := by omega
  have hz : n + 1 ≠ 0 := by omega
  refine ⟨r1, ?_, ?_⟩
  · have hr : ∃ R, (passS P (kndP (n : Int)) m.y (q, [])).2 = (passS P (kndP (n : Int)) m.y (q, [])).2 ++ R ∧ (dpassS P lstO (kndP (n : Int)) m.y (q', ((passS P (kndP (n : Int)) m.y (q, [])).2, false))).1.2 = (R, false) := by
      rcases r2 with ⟨_, h, _⟩ | ⟨_, h, _⟩
      · exact h.r
      · exact h.r
    obtain ⟨R, h1, h2⟩ := hr
    have hR : R = [] := by
      have := congrArg List.length h1
      rw [List.length_append] at this
      exact List.length_eq_zero_iff.1 (by omega)
    rw [h2, hR]
  · rcases r2 with ⟨hk, h1, h2⟩ | ⟨hk, h1, h2⟩
    · refine ⟨h1.l.congr fun x y hv0 => ?_, fun _ => h2, fun ho => ?_⟩
      · unfold misM
        rw [en, if_neg hz, if_pos hk]
        exact hs2
      · rw [en] at ho
        rcases ho with ho | ho
        · exact absurd ho hz
        · rw [hk] at ho; cases ho
    · refine ⟨h1.l.congr fun x y hv0 => ?_, fun ho => ?_, fun ho => ?_⟩
      · unfold misM Mm noD
        rw [en, if_neg hz, if_neg hk, Bool.or_false]
        split <;> omega
      · rw [en] at ho
        rcases ho with ho | ho
        · exact absurd ho hz
        · exact absurd ho hk
      · rw [en] at ho
        rcases ho with ho | ho
        · exact absurd ho hz
        · exact h2 ho
/-- The decoder's block after n passes of the encoder's symbols. -/
def decP (w h : Nat) (planes o : Int) (m : Mo) (q : St) : Nat → St
  | 0 => St.zero
  | k + 1 => (dpassS (ppR w h (k : Int) planes o m) lstO (kndP (k : Int)) m.y (decP w h planes o m q k, (symP w h planes o m q k, false))).1.1
theorem bs_all {V : Int → Int → Int} (w h : Nat) (planes : Nat) (o : Int) (m : Mo) (q : St) (hq : q.v = V) (hqs : q.s = fun _ _ => false) (hqt : q.t = fun _ _ => false) (hqr : q.r = fun _ _ => false) (hV : ∀ x y, V x y ≠ 0 → inB w h x y) (hv : ∀ x y, okV (V x y)) (hp : planes ≤ 60) (hm : ∀ x y, (V x y).natAbs < 2 ^ planes) (n : Nat) (hn : n ≤ 3 * planes - 2) :
    Bs V planes n (blkP w h planes o m q n) (decP w h planes o m q n) := by
  induction n with
  | zero =>
    refine ⟨⟨hq, hqs.symm, hqt.symm, hqr.symm, fun x y => ?_, fun x y => ?_⟩, fun _ X Y _ => by show q.t X Y = false; rw [hqt], fun _ X Y hS => ?_⟩
    · show (0 : Int) = keptM (V x y) planes
      have h1 := kept_abs (V x y) planes
      rw [Nat.div_eq_of_lt (hm x y)] at h1
      omega
    · show q.s x y = decide (2 ^ planes ≤ (V x y).natAbs)
      rw [hqs, decide_eq_false (by have := hm x y; omega)]
    · have h1 : q.s X Y = true := hS
      rw [hqs] at h1
      cases h1
  | succ n ih => exact ((ih (by omega)).pass w h o m hV hv (by omega) hp).2.2
end Go.Proofs.YtbhjapgioaiocaaDoor
set_option maxRecDepth 100000
namespace Go.Proofs.YtbhjapgioaiocaaDoor
open Go.RowKit

def fitQ (a : Sy) (c : Int) : Prop := a.1 = c ∧ (a.2 = 0 ∨ a.2 = 1)
theorem lst_yes {a : Sy} {l : List Sy} {b : Bool} {c : Int} (h : fitQ a c) : lstO (a :: l, b) c = (a.2, (l, b)) := by
  show (if a.1 = c ∧ (a.2 = 0 ∨ a.2 = 1) then (a.2, (l, b)) else (0, (a :: l, true))) = _
  exact if_pos h
theorem lst_no {a : Sy} {l : List Sy} {b : Bool} {c : Int} (h : ¬ fitQ a c) : lstO (a :: l, b) c = (0, (a :: l, true)) := by
  show (if a.1 = c ∧ (a.2 = 0 ∨ a.2 = 1) then (a.2, (l, b)) else (0, (a :: l, true))) = _
  exact if_neg h
theorem lst_wrong (s : List Sy × Bool) (c : Int) (h : s.2 = true) : (lstO s c).2.2 = true := by
  obtain ⟨l, b⟩ := s
  replace h : b = true := h
  subst h
  cases l with
  | nil => rfl
  | cons a l =>
    by_cases hf : fitQ a c
    · rw [lst_yes hf]
    · rw [lst_no hf]
/-- A pass of the decoder with symbols. -/
def replS (w h : Nat) (planes o : Int) (m : Mo) (q : St) (k : Nat) (L : List Sy) : (St × (List Sy × Bool)) × Bool := dpassS (ppR w h (k : Int) planes o m) lstO (kndP (k : Int)) m.y (q, (L, false))
def replE (r : (St × (List Sy × Bool)) × Bool) : Int := if r.1.2.2 = true then 8 else if r.2 = false then 16 else if r.1.2.1 ≠ [] then 8 else 0
/-- The passes of Values from the k-th on: the error, the block. -/
def valR (w h : Nat) (planes o : Int) (m : Mo) : List (List Sy) → Nat → St → Int × St
  | [], _, q => (0, q)
  | L :: Ls, k, q => if replE (replS w h planes o m q k L) = 0 then valR w h planes o m Ls (k + 1) (replS w h planes o m q k L).1.1 else (replE (replS w h planes o m q k L), (replS w h planes o m q k L).1.1)
section
variable {w h : Nat} {planes o : Int} {m : Mo}
theorem valR_app (Ls Ls' : List (List Sy)) : ∀ (k : Nat) (q : St), (valR w h planes o m Ls k q).1 = 0 → valR w h planes o m (Ls ++ Ls') k q = valR w h planes o m Ls' (k + Ls.length) (valR w h planes o m Ls k q).2 := by
  induction Ls with
  | nil => exact fun k q _ => rfl
  | cons L Ls ih =>
    intro k q h0
    unfold valR at h0
    by_cases he : replE (replS w h planes o m q k L) = 0
    · rw [if_pos he] at h0
      have h1 := ih (k + 1) _ h0
      rw [List.cons_append]
      show (if _ then _ else _) = _
      rw [if_pos he, h1, List.length_cons, show k + 1 + Ls.length = k + (Ls.length + 1) by omega]
      congr 1
      show _ = (if _ then _ else _ : Int × St).2
      rw [if_pos he]
    · rw [if_neg he] at h0
      exact absurd h0 he
/-- One list wrong. -/
theorem valR_bad (L : List Sy) (k : Nat) (q : St) (he : replE (replS w h planes o m q k L) ≠ 0) : (valR w h planes o m [L] k q).1 = replE (replS w h planes o m q k L) := by
  show (if _ then _ else _ : Int × St).1 = _
  rw [if_neg he]
end
/-- The passes of the encoder's symbols. -/
theorem val_sym {V : Int → Int → Int} (w h : Nat) (planes : Nat) (o : Int) (m : Mo) (q : St) (hq : q.v = V) (hqs : q.s = fun _ _ => false) (hqt : q.t = fun _ _ => false) (hqr : q.r = fun _ _ => false) (hV : ∀ x y, V x y ≠ 0 → inB w h x y) (hv : ∀ x y, okV (V x y)) (hp : planes ≤ 60) (hm : ∀ x y, (V x y).natAbs < 2 ^ planes) (n : Nat) (hn : n ≤ 3 * planes - 2) :
    valR w h planes o m (symL w h planes o m q n) 0 St.zero = (0, decP w h planes o m q n) := by
  induction n with
  | zero => rfl
  | succ n ih =>
    have h0 := ih (by omega)
    rw [symL_succ, valR_app _ _ _ _ (by rw [h0]), h0, symL_len, Nat.zero_add]
    obtain ⟨h1, h2, h3⟩ := (bs_all w h planes o m q hq hqs hqt hqr hV hv hp hm n (by omega)).pass w h o m hV hv (by omega) hp
    have he : replE (replS w h planes o m (decP w h planes o m q n) n (symP w h planes o m q n)) = 0 := by
      unfold replE replS
      have e1 : symP w h planes o m q n = (runQ w h (n : Int) planes o m (blkP w h planes o m q n)).2 := rfl
      rw [e1, h1, h2]
      simp
    show (if _ then _ else _ : Int × St) = _
    rw [if_pos he]
    rfl
/-- The encoder's symbols of a pass, read whole. -/
theorem repl_sym {V : Int → Int → Int} (w h : Nat) (planes : Nat) (o : Int) (m : Mo) (q : St) (hq : q.v = V) (hqs : q.s = fun _ _ => false) (hqt : q.t = fun _ _ => false) (hqr : q.r = fun _ _ => false) (hV : ∀ x y, V x y ≠ 0 → inB w h x y) (hv : ∀ x y, okV (V x y)) (hp : planes ≤ 60) (hm : ∀ x y, (V x y).natAbs < 2 ^ planes) (n : Nat) (hn : n < 3 * planes - 2) :
    (replS w h planes o m (decP w h planes o m q n) n (symP w h planes o m q n)).2 = true ∧ (replS w h planes o m (decP w h planes o m q n) n (symP w h planes o m q n)).1.2 = ([], false) := by
  obtain ⟨h1, h2, h3⟩ := (bs_all w h planes o m q hq hqs hqt hqr hV hv hp hm n (by omega)).pass w h o m hV hv (by omega) hp
  exact ⟨h1, h2⟩
section
variable {w h : Nat} {planes o : Int} {m : Mo} {q : St} {k : Nat}
/-- A symbol that does not fit where the first one did. -/
theorem rej_sm (a : Sy) (Y Z : List Sy) (hZ : ∀ c b Z', Z = b :: Z' → fitQ a c → ¬ fitQ b c) : Sm lstO lstO (fun s t => ∃ X, s = (X ++ a :: Y, false) ∧ t = (X ++ Z, false)) (fun s t => s.2 = true ∨ t.2 = true) := by
  refine ⟨fun s t c hg => ?_, fun s t c hn => hn.imp (lst_wrong _ _) id, fun s t c hn => hn.imp id (lst_wrong _ _)⟩
  obtain ⟨X, rfl, rfl⟩ := hg
  cases X with
  | nil =>
    right
    rw [List.nil_append, List.nil_append]
    by_cases hf : fitQ a c
    · right
      cases Z with
      | nil => rfl
      | cons b Z' => rw [lst_no (hZ c b Z' rfl hf)]
    · left
      rw [lst_no hf]
  | cons x X =>
    rw [List.cons_append, List.cons_append]
    by_cases hf : fitQ x c
    · left
      rw [lst_yes hf, lst_yes hf]
      exact ⟨rfl, X, rfl, rfl⟩
    · right
      left
      rw [lst_no hf]
theorem rej_in (a : Sy) (X Y Z : List Sy) (hZ : ∀ c b Z', Z = b :: Z' → fitQ a c → ¬ fitQ b c) (hd : (replS w h planes o m q k (X ++ a :: Y)).1.2 = ([], false)) : replE (replS w h planes o m q k (X ++ Z)) = 8 := by
  have h1 := (rej_sm a Y Z hZ).pass (p := ppR w h (k : Int) planes o m) (e := (q, (X ++ a :: Y, false))) (f := (q, (X ++ Z, false))) (.inl ⟨rfl, X, rfl, rfl⟩) (kndP (k : Int)) m.y
  have hw : (replS w h planes o m q k (X ++ Z)).1.2.2 = true := by
    rcases h1 with ⟨_, ⟨X', e1, _⟩, _⟩ | h1
    · have e2 : (replS w h planes o m q k (X ++ a :: Y)).1.2 = (X' ++ a :: Y, false) := e1
      rw [hd] at e2
      have e3 := congrArg (fun z : List Sy × Bool => z.1.length) e2
      simp at e3
    · rcases h1 with h1 | h1
      · have e2 : (replS w h planes o m q k (X ++ a :: Y)).1.2.2 = true := h1
        rw [hd] at e2
        cases e2
      · exact h1
  unfold replE
  rw [if_pos hw]
theorem rej_sm2 (z : Sy) : Sm lstO lstO (fun s t => ∃ X, s = (X, false) ∧ t = (X ++ [z], false)) (fun s t => s.2 = true ∨ t.2 = true) := by
  refine ⟨fun s t c hg => ?_, fun s t c hn => hn.imp (lst_wrong _ _) id, fun s t c hn => hn.imp id (lst_wrong _ _)⟩
  obtain ⟨X, rfl, rfl⟩ := hg
  cases X with
  | nil => exact .inr (.inl rfl)
  | cons x X =>
    rw [List.cons_append]
    by_cases hf : fitQ x c
    · left
      rw [lst_yes hf, lst_yes hf]
      exact ⟨rfl, X, rfl, rfl⟩
    · right
      left
      rw [lst_no hf]
theorem rej_more (z : Sy) (X : List Sy) (hd : (replS w h planes o m q k X).1.2 = ([], false)) (hr : (replS w h planes o m q k X).2 = true) : replE (replS w h planes o m q k (X ++ [z])) = 8 := by
  have h1 := (rej_sm2 z).pass (p := ppR w h (k : Int) planes o m) (e := (q, (X, false))) (f := (q, (X ++ [z], false))) (.inl ⟨rfl, X, rfl, rfl⟩) (kndP (k : Int)) m.y
  unfold replE
  rcases h1 with ⟨_, ⟨X', e1, e2⟩, e3⟩ | h1
  · have e4 : (replS w h planes o m q k (X ++ [z])).1.2 = (X' ++ [z], false) := e2
    have e5 : (replS w h planes o m q k (X ++ [z])).2 = true := e3.symm.trans hr
    rw [e4, e5]
    simp
  · rcases h1 with h1 | h1
    · have e2 : (replS w h planes o m q k X).1.2.2 = true := h1
      rw [hd] at e2
      cases e2
    · have e2 : (replS w h planes o m q k (X ++ [z])).1.2.2 = true := h1
      rw [if_pos e2]
end
/-- The oracle of a list of bits: the state is what was asked for. -/
def bitO (bits : List Int) : Orc (List Sy) := fun t c => (bits[t.length]?.getD 0, t ++ [(c, bits[t.length]?.getD 0)])
def badT (L t : List Sy) : Prop := ∃ (i : Nat) (b : Sy), t[i]? = some b ∧ ∀ a, L[i]? = some a → ¬ fitQ a b.1
theorem badT_app {L t : List Sy} (h : badT L t) (l : List Sy) : badT L (t ++ l) := by
  obtain ⟨i, b, h1, h2⟩ := h
  have hi := (List.getElem?_eq_some_iff.1 h1).1
  exact ⟨i, b, by rw [List.getElem?_append_left hi]; exact h1, h2⟩
theorem perf_sm (L : List Sy) : Sm lstO (bitO (L.map Prod.snd)) (fun s t => ∃ R, L = t ++ R ∧ s = (R, false) ∧ ∀ a ∈ t, a.2 = 0 ∨ a.2 = 1) (fun s t => s.2 = true ∧ badT L t) := by
  refine ⟨fun s t c hg => ?_, fun s t c hn => ⟨lst_wrong _ _ hn.1, hn.2⟩, fun s t c hn => ⟨hn.1, badT_app hn.2 _⟩⟩
  obtain ⟨R, hL, rfl, hb⟩ := hg
  cases R with
  | nil =>
    right
    have e1 : L[t.length]? = none := by rw [hL]; simp
    have e2 : ((L.map Prod.snd)[t.length]?).getD 0 = 0 := by rw [List.getElem?_map, e1]; rfl
    have e3 : bitO (L.map Prod.snd) t c = (0, t ++ [(c, 0)]) := by unfold bitO; rw [e2]
    rw [e3]
    exact ⟨rfl, t.length, (c, 0), by simp, fun a ha => by rw [e1] at ha; cases ha⟩
  | cons a R =>
    have e1 : L[t.length]? = some a := by rw [hL]; simp
    have e2 : ((L.map Prod.snd)[t.length]?).getD 0 = a.2 := by rw [List.getElem?_map, e1]; rfl
    have e3 : bitO (L.map Prod.snd) t c = (a.2, t ++ [(c, a.2)]) := by unfold bitO; rw [e2]
    rw [e3]
    by_cases hf : fitQ a c
    · left
      rw [lst_yes hf]
      refine ⟨rfl, R, ?_, rfl, fun z hz => ?_⟩
      · rw [hL, List.append_assoc]
        have : (c, a.2) = a := by rw [← hf.1]
        rw [this]
        rfl
      · rcases List.mem_append.1 hz with hz | hz
        · exact hb z hz
        · simp at hz
          subst hz
          exact hf.2
    · right
      rw [lst_no hf]
      refine ⟨rfl, t.length, (c, a.2), by simp, fun z hz => ?_⟩
      rw [e1] at hz
      cases hz
      exact hf
/-- What the reference makes of a pass with symbols. -/
def perfS (w h : Nat) (planes o : Int) (m : Mo) (q : St) (k : Nat) (L : List Sy) : (St × List Sy) × Bool := dpassS (ppR w h (k : Int) planes o m) (bitO (L.map Prod.snd)) (kndP (k : Int)) m.y (q, [])
theorem perf_is (w h : Nat) (planes o : Int) (m : Mo) (q : St) (k : Nat) (L : List Sy) :
    (badT L (perfS w h planes o m q k L).1.2 → replE (replS w h planes o m q k L) = 8) ∧
    (¬ badT L (perfS w h planes o m q k L).1.2 → (perfS w h planes o m q k L).2 = true → (perfS w h planes o m q k L).1.2.length < L.length → replE (replS w h planes o m q k L) = 8) ∧
    (¬ badT L (perfS w h planes o m q k L).1.2 → (perfS w h planes o m q k L).2 = false → replE (replS w h planes o m q k L) = 16) ∧
    (¬ badT L (perfS w h planes o m q k L).1.2 → (perfS w h planes o m q k L).2 = true → ¬ (perfS w h planes o m q k L).1.2.length < L.length → replE (replS w h planes o m q k L) = 0 ∧ (replS w h planes o m q k L).1.1 = (perfS w h planes o m q k L).1.1) := by
  have h1 := (perf_sm L).pass (p := ppR w h (k : Int) planes o m) (e := (q, (L, false))) (f := (q, [])) (.inl ⟨rfl, L, rfl, rfl, fun a ha => by simp at ha⟩) (kndP (k : Int)) m.y
  have g1 : RB (fun s t => ∃ R, L = t ++ R ∧ s = (R, false) ∧ ∀ a ∈ t, a.2 = 0 ∨ a.2 = 1) (fun s t => s.2 = true ∧ badT L t) (replS w h planes o m q k L) (perfS w h planes o m q k L) := h1
  generalize replS w h planes o m q k L = r at *
  generalize perfS w h planes o m q k L = f at *
  obtain ⟨⟨q1, s⟩, y1⟩ := r
  obtain ⟨⟨q2, t⟩, y2⟩ := f
  rcases g1 with ⟨e1, ⟨R, hL, e2, hb⟩, e3⟩ | ⟨e1, e2⟩
  · replace e1 : q1 = q2 := e1
    replace e2 : s = (R, false) := e2
    replace e3 : y1 = y2 := e3
    replace hL : L = t ++ R := hL
    replace hb : ∀ a ∈ t, a.2 = 0 ∨ a.2 = 1 := hb
    subst e1
    subst e2
    subst e3
    have hnb : ¬ badT L t := fun ⟨i, b, k1, k2⟩ => by
      have hi := (List.getElem?_eq_some_iff.1 k1).1
      have k3 : L[i]? = some b := by rw [hL, List.getElem?_append_left hi]; exact k1
      exact k2 b k3 ⟨rfl, hb b (List.mem_of_getElem? k1)⟩
    refine ⟨fun h => absurd h hnb, fun _ hy hlt => ?_, fun _ hy => ?_, fun _ hy hlt => ?_⟩
    · replace hy : y1 = true := hy
      replace hlt : t.length < L.length := hlt
      have hR : R ≠ [] := fun h => by rw [hL, h] at hlt; simp at hlt
      unfold replE
      rw [hy]
      simp [hR]
    · replace hy : y1 = false := hy
      unfold replE
      rw [hy]
      simp
    · replace hy : y1 = true := hy
      replace hlt : ¬ t.length < L.length := hlt
      have hR : R = [] := by
        rw [hL, List.length_append] at hlt
        exact List.length_eq_zero_iff.1 (by omega)
      unfold replE
      rw [hy, hR]
      simp
  · replace e1 : s.2 = true := e1
    replace e2 : badT L t := e2
    refine ⟨fun _ => ?_, fun h => absurd e2 h, fun h => absurd e2 h, fun h => absurd e2 h⟩
    unfold replE
    rw [if_pos e1]
end Go.Proofs.YtbhjapgioaiocaaDoor
